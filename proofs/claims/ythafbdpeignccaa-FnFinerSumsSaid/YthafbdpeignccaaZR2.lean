/-
  Walks: sum, validParts, ValidParts, SumOf of the model. Walks: the laws' own helpers on lists of numbers: copied (toIntS), compared (eqIntS, equalInts), marked, held. Walks: the methods of a diagram: sum, count, durfee, list, conjugate. Walks: the exported functions of chapter 1 on one list of numbers, of the model (spec) and of the program (impl): valid, sum, conjugate, durfee. Walks: the reader that draws the arguments of a law: newReader, pick, one.
-/
import Derived.Test.YthafbdpeignccaaZR1
import Derived.Test.YthafbdpeignccaaProg
import Derived.Deep.QuietTactic
import Derived.BigQuiet
import Derived.Lib.Hide
import Derived.IntWalk
import Derived.Deep.RegionLaw
import Derived.Deep.DrawnRows
namespace Go.Proofs.Ythafbdpeignccaa
open Go.RowKit NP
set_option maxRecDepth 8000
set_option linter.unusedVariables false

/-- what the sums on the way stay within -/
def sumFits (L : List Int) : Prop := ∀ k, k ≤ L.length → -4611686018427387904 ≤ sumL (L.take k) ∧ sumL (L.take k) ≤ 4611686018427387904
theorem sumFits.next {L : List Int} (h : sumFits L) {k : Nat} (hk : k < L.length) : -4611686018427387904 ≤ sumL (L.take k) + L[k] ∧ sumL (L.take k) + L[k] ≤ 4611686018427387904 := by
  have := h (k + 1) (by omega)
  rw [sumL_take_succ L k hk] at this
  exact this

theorem sum_any (a : Option Addr) (c B : Nat) (L : List Int) (w : World) (h : Rd w B a (ints L)) (hs : sumFits L) (hl : L.length ≤ 4611686018427387904) :
    Calls Try.prog 68 #[.slice a L.length c] w fun e w' => e = .returned (.int .i64 (sumL L)) ∧ w = w' := by
  go_enter Try.func68, Try.ntmps68
  go_wp2
  go_loop [3, 4] (fun s i => ∃ k : Nat, k ≤ L.length ∧ i = .int .i64 k ∧ s = .int .i64 (sumL (L.take k))) (fun _ i => L.length - (intOf i).toNat)
  case atStart => exact ⟨0, Nat.zero_le _, rfl, rfl⟩
  case round =>
    obtain ⟨k, hk, rfl, rfl⟩ := hrel
    by_cases hlt : k < L.length
    · obtain ⟨b, o, rfl, _, hc⟩ := h.at_ hlt
      have h1 := hs k hk
      have h2 := hs.next hlt
      have h3 := sumL_take_succ L k hlt
      have H3 := Lib.hid h3
      clear h3
      go_wp2
      go_round
      case rel => exact ⟨k + 1, by omega, by go_num, by rw [H3.out]⟩
      case measure => simp [intOf]; omega
    · go_wp2
      go_ret
      exact ⟨ret_i64 (by rw [List.take_of_length_le (by omega)]), rfl⟩

theorem inRange_yes (n lo hi : Int) (w : World) (h1 : lo ≤ n) (h2 : n ≤ hi) : Calls Try.prog 49 #[.int .i64 n, .int .i64 lo, .int .i64 hi] w fun e w' => e = .returned (.bool true) ∧ w' = w := by
  go_enter Try.func49, Try.ntmps49
  go_wp2
  go_ret
  exact ⟨rfl, rfl⟩
theorem inRange_no (n lo hi : Int) (w : World) (h : n < lo ∨ hi < n) : Calls Try.prog 49 #[.int .i64 n, .int .i64 lo, .int .i64 hi] w fun e w' => e = .returned (.bool false) ∧ w' = w := by
  by_cases h1 : lo ≤ n
  · have h2 : hi < n := by omega
    clear h
    go_enter Try.func49, Try.ntmps49
    go_wp2
    go_ret
    exact ⟨ret_bool (by simp; omega), rfl⟩
  · clear h
    go_enter Try.func49, Try.ntmps49
    go_wp2
    go_ret
    exact ⟨rfl, rfl⟩

theorem validParts_any (a : Option Addr) (c B : Nat) (L : List Int) (w : World) (h : Rd w B a (ints L)) (hl : L.length ≤ 4611686018427387904) :
    Calls Try.prog 48 #[.slice a L.length c] w fun e w' => e = .returned (.bool (valid L)) ∧ ∃ n, w' = w.drewN n := by
  go_enter Try.func48, Try.ntmps48
  go_wp2
  go_loopw [3] (fun i wr => ∃ k : Nat, k ≤ L.length ∧ i = .int .i64 k ∧ Dr w wr ∧ preS L k) (fun i _ => L.length - (intOf i).toNat)
  case atStart => exact ⟨0, Nat.zero_le _, rfl, Dr.refl _, fun j _ h => by omega⟩
  case round =>
    obtain ⟨k, hk, rfl, hdr, hpre⟩ := hrel
    by_cases hlt : k < L.length
    · have hR := h.dr hdr
      obtain ⟨b, o, rfl, hB, hc⟩ := hR.at_ hlt
      have HP := Lib.hid hpre
      have HN := Lib.hid (not_valid_at hlt)
      have HS := Lib.hid (preS_succ hlt hpre)
      clear hpre
      by_cases h12 : 1 ≤ L[k] ∧ L[k] ≤ 16
      · obtain ⟨h1, h2⟩ := h12
        by_cases h0 : k = 0
        · subst h0
          have hc' : wr.cell? ⟨b, o, none⟩ = some (.int .i64 L[0]) := hc
          go_wp2_with fail
          go_quiet ((go_at_call 49; exact Calls.quiet_of_same (inRange_yes _ _ _ _ h1 h2)))
          go_wp2
          go_roundw
          case rel => exact ⟨0 + 1, by omega, by go_num, hdr.drewN _, HS.out h1 h2 (by omega)⟩
          case measure => simp [intOf]; omega
        · have hk1 : k - 1 < L.length := by omega
          obtain ⟨b', o', e', -, hc2⟩ := hR.at_ hk1
          injection e' with e'; injection e' with e1 e2; subst e1 e2
          have h4 : (0 : Int) < k := by omega
          have h5 : 0 < k := by omega
          have h7 : 1 ≤ k := by omega
          by_cases h3 : L[k] ≤ L[k - 1]
          · go_wp2_with fail
            go_quiet ((go_at_call 49; exact Calls.quiet_of_same (inRange_yes _ _ _ _ h1 h2)))
            go_wp2
            go_roundw
            case rel => exact ⟨k + 1, by omega, by go_num, hdr.drewN _, HS.out h1 h2 (fun _ => h3)⟩
            case measure => simp [intOf]; omega
          · have hv : valid L = false := HN.out (fun hh => h3 (hh.2.2 h5))
            have HV := Lib.hid hv
            clear hv
            have h3' : L[k - 1] < L[k] := by omega
            go_wp2_with fail
            go_quiet ((go_at_call 49; exact Calls.quiet_of_same (inRange_yes _ _ _ _ h1 h2)))
            go_wp2
            go_ret
            exact ⟨ret_bool HV.out.symm, hdr.drewN _⟩
      · have hv : valid L = false := HN.out (fun hh => h12 ⟨hh.1, hh.2.1⟩)
        have HV := Lib.hid hv
        clear hv
        have h12' : L[k] < 1 ∨ 16 < L[k] := by omega
        clear h12
        have H12 := Lib.hid h12'
        clear h12'
        go_wp2_with fail
        go_quiet ((go_at_call 49; exact Calls.quiet_of_same (inRange_no _ _ _ _ H12.out)))
        go_wp2
        go_ret
        exact ⟨ret_bool HV.out.symm, hdr.drewN _⟩
    · obtain rfl : k = L.length := by omega
      by_cases hlen : L.length ≤ 16
      · have hfit : sumFits L := fun j hj => by have := preS_sum hpre j hj; omega
        have HV := Lib.hid (fun hs => valid_of_preS hpre hs)
        have HV2 := Lib.hid (fun hv : valid L = true => (valid_bd hv).2.1)
        by_cases hs : sumL L ≤ 16
        · go_wp2_with (go_at_call 68; refine (sum_any _ _ B L _ (h.dr hdr) hfit (by omega)).mono ?_; rintro e w' ⟨rfl, rfl⟩)
          go_ret
          exact ⟨ret_bool (HV.out hs).symm, hdr⟩
        · go_wp2_with (go_at_call 68; refine (sum_any _ _ B L _ (h.dr hdr) hfit (by omega)).mono ?_; rintro e w' ⟨rfl, rfl⟩)
          go_ret
          exact ⟨ret_bool (by cases hv : valid L with | false => (simp; omega) | true => exact absurd (HV2.out hv) (by omega)), hdr⟩
      · have HV2 := Lib.hid (fun hv : valid L = true => (valid_bd hv).2.2.2)
        go_wp2_with fail
        go_ret
        exact ⟨ret_bool (by cases hv : valid L with | false => simp | true => exact absurd (HV2.out hv) (by omega)), hdr⟩
end Go.Proofs.Ythafbdpeignccaa
namespace Go.Proofs.Ythafbdpeignccaa
open Go.RowKit NP
set_option maxRecDepth 8000
set_option linter.unusedVariables false
theorem T_info35 : (Try.prog.info? 59).map (·.size) = some 16 := by kernel_rfl

theorem diagramOf_any (a : Option Addr) (c B : Nat) (L : List Int) (w : World) (h : Rd w B a (ints L)) (hB : B ≤ w.heap.size) (hl : L.length ≤ 4611686018427387904) :
    Calls Try.prog 64 #[.slice a L.length c] w fun e w' => e = .returned (.tuple #[.agg (arr (dg L)), .bool (valid L)]) ∧ Below w.heap.size w w' := by
  go_enter Try.func64, Try.ntmps64
  go_wp2
  go_loopw [5, 10] (fun l i wr => ∃ k : Nat, k ≤ L.length ∧ i = .int .i64 k ∧ l = .int .i64 (16 - sumL (L.take k)) ∧ valid (L.take k) = true ∧ Below w.heap.size w wr ∧
    Blk wr w.heap.size 59 (arr (List.replicate 16 0)) ∧ Blk wr (w.heap.size + 1) 59 (arr (pad (L.take k)))) (fun _ i _ => L.length - (intOf i).toNat)
  case atStart =>
    refine ⟨0, Nat.zero_le _, rfl, rfl, rfl, ?_, ?_, ?_⟩
    · exact ((Below.refl _ _).alloc (Nat.le_refl _) _).alloc (by simp) _
    · exact (Blk.new w _ _).alloc _
    · have e := Blk.new (w.alloc (.cells (arr (List.replicate 16 0)) 59)) 59 (arr (pad (L.take 0)))
      rw [World.size_alloc] at e
      exact e
  case round =>
    obtain ⟨k, hk, rfl, rfl, hv, hbel, hb2, hb4⟩ := hrel
    have hbd := valid_bd hv
    by_cases hlt : k < L.length
    · have hR := (h.more hB).below hbel
      obtain ⟨b, o, rfl, hbB, hc⟩ := hR.at_ hlt
      have HN := Lib.hid (valid_stop hlt hv)
      have HY := Lib.hid (valid_next hlt hv)
      have HV := Lib.hid hv
      clear hv
      by_cases hok : 1 ≤ L[k] ∧ L[k] ≤ 16 - sumL (L.take k) ∧ (0 < k → L[k] ≤ L[k - 1]'(by omega))
      · have hvt := Lib.hid (HY.out hok.1 hok.2.1 hok.2.2)
        obtain ⟨h1, h2, h3⟩ := hok
        clear HN HY
        have hk16 : k < 16 := by
          have := (valid_bd hvt.out).2.2.2
          rw [List.length_take_of_le (by omega)] at this
          omega
        have hst := sumL_take_succ L k hlt
        have HST := Lib.hid hst
        clear hst
        have hcz : wr.cell? ⟨w.heap.size + 1, k, none⟩ = some ((arr (pad (L.take k)))[k]?.getD undef) := by
          rw [hb4.cell k]
          have : k < (arr (pad (L.take k))).size := by rw [arr_size, pad_len (by simp; omega)]; omega
          simp [this]
        have hfz : wr.frozen? ⟨w.heap.size + 1, k, none⟩ = false := hb4.free k
        have hpad : (arr (pad (L.take k))).setIfInBounds k (.int .i64 L[k]) = arr (pad (L.take (k + 1))) := by
          rw [arr_set, pad_set hlt hk16]
        have HPAD := Lib.hid hpad
        clear hpad
        have d1 : decide (L[k] < 1) = false := by simp; omega
        have d2 : decide (16 - sumL (L.take k) < L[k]) = false := by simp; omega
        by_cases h0 : k = 0
        · subst h0
          have hc' : wr.cell? ⟨b, o, none⟩ = some (.int .i64 L[0]) := hc
          clear h3
          have hz : sumL ([] : List Int) = 0 := rfl
          go_wp2_with fail
          go_roundw
          case rel =>
            refine ⟨0 + 1, by omega, by go_num, congrArg (Value.int .i64) (by rw [HST.out]; simp [sumL]), hvt.out, hbel.setCell (by simp) _, hb2.off (by simp) _, ?_⟩
            have e := hb4.set 0 (.int .i64 L[0])
            rw [HPAD.out] at e
            exact e
          case measure => simp [intOf]; omega
        · have hk1 : k - 1 < L.length := by omega
          obtain ⟨b', o', e', -, hc2⟩ := hR.at_ hk1
          injection e' with e'; injection e' with e1 e2; subst e1 e2
          have h4 : (0 : Int) < k := by omega
          have h7 : 1 ≤ k := by omega
          have h5 : 0 < k := by omega
          have h3' := h3 h5
          clear h3
          have d3 : decide (L[k - 1]'(by omega) < L[k]) = false := by simp; omega
          go_wp2_with fail
          go_roundw
          case rel =>
            refine ⟨k + 1, by omega, by go_num, by rw [HST.out]; go_num, hvt.out, hbel.setCell (by simp) _, hb2.off (by simp) _, ?_⟩
            have e := hb4.set k (.int .i64 L[k])
            rw [HPAD.out] at e
            exact e
          case measure => simp [intOf]; omega
      · have hvf := Lib.hid (HN.out hok)
        have hok' := Lib.hid hok
        clear HN HY hok
        by_cases h1 : 1 ≤ L[k]
        · by_cases h2 : L[k] ≤ 16 - sumL (L.take k)
          · have h0 : 0 < k := by
              rcases Nat.eq_zero_or_pos k with h0 | h0
              · exact absurd ⟨h1, h2, fun h => by omega⟩ hok'.out
              · exact h0
            have h3 : L[k - 1]'(by omega) < L[k] := by
              rcases Int.lt_or_le (L[k - 1]'(by omega)) L[k] with h3 | h3
              · exact h3
              · exact absurd ⟨h1, h2, fun _ => h3⟩ hok'.out
            have hk1 : k - 1 < L.length := by omega
            obtain ⟨b', o', e', -, hc2⟩ := hR.at_ hk1
            injection e' with e'; injection e' with e1 e2; subst e1 e2
            have h4 : (0 : Int) < k := by omega
            have h7 : 1 ≤ k := by omega
            have d1 : decide (L[k] < 1) = false := by simp; omega
            have d2 : decide (16 - sumL (L.take k) < L[k]) = false := by simp; omega
            have d3 : decide (L[k - 1]'(by omega) < L[k]) = true := by simp; omega
            go_wp2_with (refine wpList_store_row rfl 59 (.tmp 2) (.tmp 35) rfl w.heap.size rfl (arr (List.replicate 16 0)) rfl 59 _ hb2 T_info35 rfl (arr_one _) ?_)
            refine bodyPost_ret (results_cell_tmp rfl _ _ w.heap.size 59 (arr (List.replicate 16 0)) (0, 0) _ rfl hb2.row Try.underlying59 rfl T_info35) rfl ?_
            rw [hvf.out, dg_no hvf.out]
            exact ⟨rfl, below_setRow' hbel (Nat.le_refl _) _⟩
          · have h2' : 16 - sumL (L.take k) < L[k] := by omega
            clear h2
            have d1 : decide (L[k] < 1) = false := by simp; omega
            have d2 : decide (16 - sumL (L.take k) < L[k]) = true := by simp; omega
            go_wp2_with (refine wpList_store_row rfl 59 (.tmp 2) (.tmp 35) rfl w.heap.size rfl (arr (List.replicate 16 0)) rfl 59 _ hb2 T_info35 rfl (arr_one _) ?_)
            refine bodyPost_ret (results_cell_tmp rfl _ _ w.heap.size 59 (arr (List.replicate 16 0)) (0, 0) _ rfl hb2.row Try.underlying59 rfl T_info35) rfl ?_
            rw [hvf.out, dg_no hvf.out]
            exact ⟨rfl, below_setRow' hbel (Nat.le_refl _) _⟩
        · have h1' : L[k] < 1 := by omega
          clear h1
          go_wp2_with (refine wpList_store_row rfl 59 (.tmp 2) (.tmp 35) rfl w.heap.size rfl (arr (List.replicate 16 0)) rfl 59 _ hb2 T_info35 rfl (arr_one _) ?_)
          refine bodyPost_ret (results_cell_tmp rfl _ _ w.heap.size 59 (arr (List.replicate 16 0)) (0, 0) _ rfl hb2.row Try.underlying59 rfl T_info35) rfl ?_
          rw [hvf.out, dg_no hvf.out]
          exact ⟨rfl, below_setRow' hbel (Nat.le_refl _) _⟩
    · obtain rfl : k = L.length := by omega
      have ht : L.take L.length = L := List.take_of_length_le (Nat.le_refl _)
      rw [ht] at hv hb4
      have hvf := Lib.hid hv
      clear hv
      have hi16 : (Try.prog.info? 59).map (·.size) = some (arr (pad L)).size := by rw [arr_size, pad_len (valid_bd hvf.out).2.2.2]; exact T_info35
      have hsz : (arr (pad L)).size = (arr (List.replicate 16 0)).size := by rw [arr_size, arr_size, pad_len (valid_bd hvf.out).2.2.2]; rfl
      go_wp2_with (first | (refine wpList_load_row rfl 59 (.tmp 4) rfl (w.heap.size + 1) rfl 59 (arr (pad L)) (0, 0) _ hb4 Try.underlying59 rfl hi16 ?_) | (refine wpList_store_row rfl 59 (.tmp 2) (.tmp 43) rfl w.heap.size rfl (arr (pad L)) rfl 59 _ hb2 hi16 hsz (arr_one _) ?_))
      refine bodyPost_ret (results_cell_tmp rfl _ _ w.heap.size 59 (arr (pad L)) (0, 0) _ rfl hb2.row Try.underlying59 rfl hi16) rfl ?_
      rw [hvf.out, dg_yes hvf.out]
      exact ⟨rfl, below_setRow' hbel (Nat.le_refl _) _⟩
end Go.Proofs.Ythafbdpeignccaa
namespace Go.Proofs.Ythafbdpeignccaa
open Go.RowKit NP
set_option maxRecDepth 8000
set_option linter.unusedVariables false
theorem T_int : (Try.prog.info? 3).map (fun i => (i.zero, i.size, i.bytes)) = some (some (.int .i64 0), 1, 8) := by kernel_rfl
theorem eqIntS_any (a b : Option Addr) (ca cb Ba Bb : Nat) (L M : List Int) (w : World) (h : Rd w Ba a (ints L)) (hm : Rd w Bb b (ints M)) (hl : L.length ≤ 4611686018427387904) (hl2 : M.length ≤ 4611686018427387904) :
    Calls Try.prog 16 #[.slice a L.length ca, .slice b M.length cb] w fun e w' => e = .returned (.bool (decide (L = M))) ∧ ∃ n, w' = w.drewN n := by
  by_cases hlen : L.length = M.length
  · have hne : ((L.length : Int) != (M.length : Int)) = false := by simp [hlen]
    have HL := Lib.hid hlen
    clear hlen
    go_enter Try.func16, Try.ntmps16
    go_wp2
    go_loopw [5] (fun i wr => ∃ k : Nat, k ≤ L.length ∧ i = .int .i64 k ∧ Dr w wr ∧ Hid (L.take k = M.take k)) (fun i _ => L.length - (intOf i).toNat)
    case atStart => exact ⟨0, Nat.zero_le _, rfl, Dr.refl _, Lib.hid rfl⟩
    case round =>
      obtain ⟨k, hk, rfl, hdr, HT⟩ := hrel
      by_cases hlt : k < L.length
      · have hlt2 : k < M.length := by have := HL.out; omega
        obtain ⟨b1, o1, rfl, -, hc1⟩ := (h.dr hdr).at_ hlt
        obtain ⟨b2, o2, rfl, -, hc2⟩ := (hm.dr hdr).at_ hlt2
        by_cases hx : L[k] = M[k]
        · have hx' : (L[k] != M[k]) = false := by simp [hx]
          have HX := Lib.hid hx
          clear hx
          go_wp2_with fail
          go_quiet (fail)
          go_wp2
          go_roundw
          case rel => exact ⟨k + 1, by omega, by go_num, hdr.drewN _, Lib.hid (by rw [List.take_succ_eq_append_getElem hlt, List.take_succ_eq_append_getElem hlt2, HT.out, HX.out])⟩
          case measure => simp [intOf]; omega
        · have hx' : (L[k] != M[k]) = true := by simp [hx]
          have HX := Lib.hid hx
          clear hx
          go_wp2_with fail
          go_quiet (fail)
          go_wp2
          go_ret
          exact ⟨ret_bool (by simp; intro e; apply HX.out; simp only [e]), hdr.drewN _⟩
      · obtain rfl : k = L.length := by omega
        go_wp2
        go_ret
        exact ⟨ret_bool (by simp; have := HT.out; rw [List.take_of_length_le (Nat.le_refl _), List.take_of_length_le (by have := HL.out; omega)] at this; exact this), hdr⟩
  · have hne : ((L.length : Int) != (M.length : Int)) = true := by simp; omega
    have HL := Lib.hid hlen
    clear hlen
    go_enter Try.func16, Try.ntmps16
    go_wp2
    go_ret
    exact ⟨ret_bool (by simp; intro e; exact HL.out (by rw [e])), Dr.refl _⟩
theorem equalInts_any (a b : Option Addr) (ca cb Ba Bb : Nat) (L M : List Int) (w : World) (h : Rd w Ba a (ints L)) (hm : Rd w Bb b (ints M)) (hl : L.length ≤ 4611686018427387904) (hl2 : M.length ≤ 4611686018427387904) :
    Calls Try.prog 20 #[.slice a L.length ca, .slice b M.length cb] w fun e w' => e = .returned (.bool (decide (L = M))) ∧ ∃ n, w' = w.drewN n := by
  by_cases hlen : L.length = M.length
  · have hne : ((L.length : Int) != (M.length : Int)) = false := by simp [hlen]
    have HL := Lib.hid hlen
    clear hlen
    go_enter Try.func20, Try.ntmps20
    go_wp2
    go_loopw [5] (fun i wr => ∃ k : Nat, k ≤ L.length ∧ i = .int .i64 k ∧ Dr w wr ∧ Hid (L.take k = M.take k)) (fun i _ => L.length - (intOf i).toNat)
    case atStart => exact ⟨0, Nat.zero_le _, rfl, Dr.refl _, Lib.hid rfl⟩
    case round =>
      obtain ⟨k, hk, rfl, hdr, HT⟩ := hrel
      by_cases hlt : k < L.length
      · have hlt2 : k < M.length := by have := HL.out; omega
        obtain ⟨b1, o1, rfl, -, hc1⟩ := (h.dr hdr).at_ hlt
        obtain ⟨b2, o2, rfl, -, hc2⟩ := (hm.dr hdr).at_ hlt2
        by_cases hx : L[k] = M[k]
        · have hx' : (L[k] != M[k]) = false := by simp [hx]
          have HX := Lib.hid hx
          clear hx
          go_wp2_with fail
          go_quiet (fail)
          go_wp2
          go_roundw
          case rel => exact ⟨k + 1, by omega, by go_num, hdr.drewN _, Lib.hid (by rw [List.take_succ_eq_append_getElem hlt, List.take_succ_eq_append_getElem hlt2, HT.out, HX.out])⟩
          case measure => simp [intOf]; omega
        · have hx' : (L[k] != M[k]) = true := by simp [hx]
          have HX := Lib.hid hx
          clear hx
          go_wp2_with fail
          go_quiet (fail)
          go_wp2
          go_ret
          exact ⟨ret_bool (by simp; intro e; apply HX.out; simp only [e]), hdr.drewN _⟩
      · obtain rfl : k = L.length := by omega
        go_wp2
        go_ret
        exact ⟨ret_bool (by simp; have := HT.out; rw [List.take_of_length_le (Nat.le_refl _), List.take_of_length_le (by have := HL.out; omega)] at this; exact this), hdr⟩
  · have hne : ((L.length : Int) != (M.length : Int)) = true := by simp; omega
    have HL := Lib.hid hlen
    clear hlen
    go_enter Try.func20, Try.ntmps20
    go_wp2
    go_ret
    exact ⟨ret_bool (by simp; intro e; exact HL.out (by rw [e])), Dr.refl _⟩

theorem fill_set {L : List Int} {k : Nat} (hk : k < L.length) : (ints (L.take k) ++ List.replicate (L.length - k) (Value.int .i64 0)).set k (.int .i64 L[k]) = ints (L.take (k + 1)) ++ List.replicate (L.length - (k + 1)) (Value.int .i64 0) := by
  have e1 : (ints (L.take k)).length = k := by simp; omega
  rw [show L.length - k = (L.length - (k + 1)) + 1 by omega, List.replicate_succ, List.set_append_right _ _ (by omega), e1, Nat.sub_self, List.set_cons_zero, List.take_succ_eq_append_getElem hk]
  simp only [ints, List.map_append, List.map_cons, List.map_nil, List.append_assoc, List.cons_append, List.nil_append]

theorem T_int' : ∃ i, Try.prog.info? 3 = some i ∧ i.zero = some (.int .i64 0) ∧ i.size = 1 ∧ i.bytes = 8 := info_parts T_int

theorem toIntS_any (a : Option Addr) (c B : Nat) (L : List Int) (w : World) (h : Rd w B a (ints L)) (hB : B ≤ w.heap.size) (hl : L.length ≤ 1048576) :
    Calls Try.prog 14 #[.slice a L.length c] w fun e w' => ∃ a', e = .returned (.slice a' L.length L.length) ∧ Own w' w.heap.size w'.heap.size 3 (.slice a' L.length L.length) (ints L) ∧ Below w.heap.size w w' := by
  obtain ⟨i0, hi, hz0, hz1, hz2⟩ := T_int'
  go_enter Try.func14, Try.ntmps14
  go_wp2_with (refine wpList_make_full _ rfl _ _ 22 rfl w.heap.size 3 i0 (.int .i64 0) 1 Try.underlying22 hi hz0 hz1 .i64 .i64 _ _ L.length rfl rfl rfl rfl (by rw [hz2]; omega) (by unfold maxLen; omega) (by simp) ?_; intro w1 hown1 hg1; have hb1 : Below w.heap.size w w1 := (Below.refl _ _).grown hg1 (Nat.le_refl _) (by simp); have ho1 : Own w1 w.heap.size w1.heap.size 3 (.slice (some ⟨w.heap.size, 0, none⟩) L.length L.length) (List.replicate L.length (Value.int .i64 0)) := ⟨by simpa [toList_madeCells_one, Value.cells] using hown1, fun g hg => (hown1.lt g hg).2, Nat.le_refl _⟩; clear hown1 hg1)
  go_loopw [4] (fun i wr => ∃ k : Nat, k ≤ L.length ∧ i = .int .i64 k ∧ Below w.heap.size w wr ∧ Own wr w.heap.size wr.heap.size 3 (.slice (some ⟨w.heap.size, 0, none⟩) L.length L.length) (ints (L.take k) ++ List.replicate (L.length - k) (Value.int .i64 0))) (fun i _ => L.length - (intOf i).toNat)
  case atStart => exact ⟨0, Nat.zero_le _, rfl, hb1, by simpa using ho1⟩
  case round =>
    obtain ⟨k, hk, rfl, hbr, hor⟩ := hrel
    clear hb1 ho1
    by_cases hlt : k < L.length
    · obtain ⟨b1, o1, rfl, -, hc1⟩ := ((h.more hB).below hbr).at_ hlt
      obtain ⟨g, u, e, hlo, hhi, hc2, hf2⟩ := hor.spot (k := k) (by simp; omega)
      obtain rfl : w.heap.size = g := by injection e with e; injection e
      clear e
      have HF := Lib.hid (fill_set hlt)
      have HO := Lib.hid hor
      clear hor
      go_wp2
      go_roundw
      case rel =>
        refine ⟨k + 1, by omega, by go_num, hbr.setCell (by simp) _, ?_⟩
        have e := HO.out.set k (.int .i64 L[k])
        rw [HF.out] at e
        exact ⟨e.row, fun g hg => by simpa [World.setCell] using e.lt g hg, Nat.le_refl _⟩
      case measure => simp [intOf]; omega
    · obtain rfl : k = L.length := by omega
      go_wp2
      go_ret
      exact ⟨_, rfl, by simpa using hor, hbr⟩

/-- the marks from m on -/
def marks (m : Int) (n : Nat) : List Int := (List.range n).map fun (j : Nat) => m + (j : Int)
theorem marks_len (m : Int) (n : Nat) : (marks m n).length = n := by simp [marks]
theorem marks_get (m : Int) (n j : Nat) (h : j < (marks m n).length) : (marks m n)[j] = m + (j : Int) := by simp [marks]
theorem mark_set {L : List Int} {m : Int} {k : Nat} (hk : k < L.length) : (ints (marks m k ++ L.drop k)).set k (.int .i64 (m + (k : Int))) = ints (marks m (k + 1) ++ L.drop (k + 1)) := by
  have e1 : (marks m k).length = k := marks_len m k
  rw [List.drop_eq_getElem_cons hk, ints, List.map_append, List.map_cons, List.set_append_right _ _ (by simp [e1]), List.length_map, e1, Nat.sub_self, List.set_cons_zero]
  simp [ints, marks, List.range_succ]

theorem markIntS_any (a : Option Addr) (c lo hi : Nat) (m : Int) (L : List Int) (w : World) (h : Own w lo hi 3 (.slice a L.length c) (ints L)) (hm : 0 ≤ m) (hm2 : m ≤ 1099511627776) (hl : L.length ≤ 1099511627776) :
    Calls Try.prog 17 #[.slice a L.length c, .int .i64 m] w fun e w' => e = .returned (.int .i64 (m + (L.length : Int))) ∧ Own w' lo hi 3 (.slice a L.length c) (ints (marks m L.length)) ∧ w.grownBy w' (Value.slice a L.length c).ownBlock := by
  go_enter Try.func17, Try.ntmps17
  go_wp2
  go_loopw [1, 5] (fun kk i wr => ∃ k : Nat, k ≤ L.length ∧ i = .int .i64 k ∧ kk = .int .i64 (m + (k : Int)) ∧ w.grownBy wr (Value.slice a L.length c).ownBlock ∧ Own wr lo hi 3 (.slice a L.length c) (ints (marks m k ++ L.drop k))) (fun _ i _ => L.length - (intOf i).toNat)
  case atStart => exact ⟨0, Nat.zero_le _, rfl, by simp, World.grownBy.refl _ _, by simpa [marks] using h⟩
  case round =>
    obtain ⟨k, hk, rfl, rfl, hbr, hor⟩ := hrel
    clear h
    by_cases hlt : k < L.length
    · obtain ⟨g, u, rfl, hlo, hhi, hc2, hf2⟩ := hor.spot (k := k) (by simp [marks_len]; omega)
      have HF := Lib.hid (mark_set (m := m) hlt)
      have HO := Lib.hid hor
      have HR := Lib.hid hbr
      clear hor hbr
      go_wp2
      go_roundw
      case rel =>
        have e := HO.out.set k (.int .i64 (m + (k : Int)))
        have hbr := HR.out
        rw [HF.out] at e
        refine ⟨k + 1, by omega, by go_num, by go_num, ?_, e⟩
        exact ⟨hbr.os, hbr.tape, hbr.output, by simpa [World.setCell] using hbr.size, fun q hq hne => (Below.heap_setCell wr _ _ q (by rintro rfl; exact hne (by simp [Value.ownBlock]))).trans (hbr.block q hq hne)⟩
      case measure => simp [intOf]; omega
    · obtain rfl : k = L.length := by omega
      go_wp2
      go_ret
      exact ⟨rfl, by simpa using hor, hbr⟩

theorem heldIntS_any (a : Option Addr) (c B n : Nat) (m : Int) (w : World) (h : Rd w B a (ints (marks m n))) (hm : 0 ≤ m) (hm2 : m ≤ 1099511627776) (hl : n ≤ 1099511627776) :
    Calls Try.prog 18 #[.slice a n c, .int .i64 m] w fun e w' => e = .returned (.int .i64 (m + (n : Int))) ∧ w = w' := by
  have hn : (marks m n).length = n := marks_len m n
  have HN := Lib.hid hn
  clear hn
  go_enter Try.func18, Try.ntmps18
  go_wp2
  go_loop [1, 5] (fun kk i => ∃ k : Nat, k ≤ n ∧ i = .int .i64 k ∧ kk = .int .i64 (m + (k : Int))) (fun _ i => n - (intOf i).toNat)
  case atStart => exact ⟨0, Nat.zero_le _, rfl, by simp⟩
  case round =>
    obtain ⟨k, hk, rfl, rfl⟩ := hrel
    by_cases hlt : k < n
    · obtain ⟨b1, o1, rfl, -, hc1⟩ := h.at_ (k := k) (by rw [HN.out]; exact hlt)
      rw [marks_get] at hc1
      go_wp2
      go_round
      case rel => exact ⟨k + 1, by omega, by go_num, by go_num⟩
      case measure => simp [intOf]; omega
    · obtain rfl : k = n := by omega
      go_wp2
      go_ret
      exact ⟨rfl, rfl⟩

theorem eqIntS_same (a b : Option Addr) (ca cb Ba Bb : Nat) (L : List Int) (w : World) (h : Rd w Ba a (ints L)) (hm : Rd w Bb b (ints L)) (hl : L.length ≤ 4611686018427387904) :
    Calls Try.prog 16 #[.slice a L.length ca, .slice b L.length cb] w fun e w' => e = .returned (.bool true) ∧ Dr w w' :=
  (eqIntS_any a b ca cb Ba Bb L L w h hm hl hl).mono fun e w' ⟨h1, h2⟩ => ⟨by rw [h1]; simp, h2⟩
theorem equalInts_same (a b : Option Addr) (ca cb Ba Bb : Nat) (L : List Int) (w : World) (h : Rd w Ba a (ints L)) (hm : Rd w Bb b (ints L)) (hl : L.length ≤ 4611686018427387904) :
    Calls Try.prog 20 #[.slice a L.length ca, .slice b L.length cb] w fun e w' => e = .returned (.bool true) ∧ Dr w w' :=
  (equalInts_any a b ca cb Ba Bb L L w h hm hl hl).mono fun e w' ⟨h1, h2⟩ => ⟨by rw [h1]; simp, h2⟩

theorem total_any (a : Option Addr) (c B : Nat) (L : List Int) (w : World) (h : Rd w B a (ints L)) (hs : sumFits L) (hl : L.length ≤ 4611686018427387904) :
    Calls Try.prog 22 #[.slice a L.length c] w fun e w' => e = .returned (.int .i64 (sumL L)) ∧ w = w' := by
  go_enter Try.func22, Try.ntmps22
  go_wp2
  go_loop [3, 4] (fun s i => ∃ k : Nat, k ≤ L.length ∧ i = .int .i64 k ∧ s = .int .i64 (sumL (L.take k))) (fun _ i => L.length - (intOf i).toNat)
  case atStart => exact ⟨0, Nat.zero_le _, rfl, rfl⟩
  case round =>
    obtain ⟨k, hk, rfl, rfl⟩ := hrel
    by_cases hlt : k < L.length
    · obtain ⟨b, o, rfl, _, hc⟩ := h.at_ hlt
      have h1 := hs k hk
      have h2 := hs.next hlt
      have H3 := Lib.hid (sumL_take_succ L k hlt)
      go_wp2
      go_round
      case rel => exact ⟨k + 1, by omega, by go_num, by rw [H3.out]⟩
      case measure => simp [intOf]; omega
    · go_wp2
      go_ret
      exact ⟨ret_i64 (by rw [List.take_of_length_le (by omega)]), rfl⟩
end Go.Proofs.Ythafbdpeignccaa
namespace Go.Proofs.Ythafbdpeignccaa
open Go.RowKit NP
set_option maxRecDepth 8000
set_option linter.unusedVariables false

def cntD (D : List Int) : Nat := ff (fun k => decide (0 < D.getD k 0)) 16
def durD (D : List Int) : Nat := ff (fun (k : Nat) => decide ((k : Int) < D.getD k 0)) 16
theorem box_cell (w : World) (D : List Int) (k : Nat) (hk : k < D.length) : (w.alloc (.cells (arr D) 59)).cell? ⟨w.heap.size, k, none⟩ = some (.int .i64 D[k]) := by
  rw [(Blk.new w _ _).cell k, arr_get D k hk]

theorem count_any (D : List Int) (hD : D.length = 16) (w : World) :
    Calls Try.prog 109 #[.agg (arr D)] w fun e w' => e = .returned (.int .i64 (cntD D)) ∧ Below w.heap.size w w' := by
  have HD := Lib.hid hD
  have hd16 : 16 ≤ D.length := by omega
  clear hD
  go_enter Try.func109, Try.ntmps109
  go_wp2
  go_loop [3] (fun i => ∃ k : Nat, k ≤ 16 ∧ i = .int .i64 k ∧ Hid (∀ j, j < k → (fun k => decide (0 < D.getD k 0)) j = true)) (fun i => 16 - (intOf i).toNat)
  case atStart => exact ⟨0, Nat.zero_le _, rfl, Lib.hid fun j hj => by omega⟩
  case round =>
    obtain ⟨k, hk, rfl, HP⟩ := hrel
    by_cases hlt : k < 16
    · have hkD : k < D.length := by omega
      have hc := box_cell w D k hkD
      by_cases hx : 0 < D[k]
      · go_wp2
        go_round
        case rel => exact ⟨k + 1, by omega, by go_num, Lib.hid fun j hj => by
          rcases Nat.lt_or_ge j k with h | h
          · exact HP.out j h
          · obtain rfl : j = k := by omega
            simp [List.getD, hkD]; omega⟩
        case measure => simp [intOf]; omega
      · have hx' : D[k] ≤ 0 := by omega
        clear hx
        go_wp2
        go_ret
        exact ⟨ret_i64 (by unfold cntD; rw [ff_eq HP.out hk (.inr (by simp [List.getD, hkD]; omega))]), (Below.refl _ _).alloc (Nat.le_refl _) _⟩
    · obtain rfl : k = 16 := by omega
      go_wp2
      go_ret
      exact ⟨ret_i64 (by unfold cntD; rw [ff_eq HP.out hk (.inl rfl)]; rfl), (Below.refl _ _).alloc (Nat.le_refl _) _⟩

theorem T_index (D : List Int) (k : Nat) (hk : k < D.length) (h16 : k < 16) (w : World) : (Instr.index 59 (.agg (arr D)) (.int .i64 k)).run Try.prog w = .ok (.int .i64 D[k]) w :=
  run_index_row 59 3 _ 16 Try.underlying59 Try.underlying3 rfl (by kernel_rfl) (arr D) k _ h16 (arr_get D k hk) .i64 w

theorem dsum_any (D : List Int) (hD : D.length = 16) (hs : sumFits D) (w : World) :
    Calls Try.prog 70 #[.agg (arr D)] w fun e w' => e = .returned (.int .i64 (sumL D)) ∧ Below w.heap.size w w' := by
  have HD := Lib.hid hD
  have hd16 : 16 ≤ D.length := by omega
  have hi16 : (Try.prog.info? 59).map (·.size) = some (arr D).size := by rw [arr_size, hD]; exact T_info35
  clear hD
  have hb := Blk.new w 59 (arr D)
  go_enter Try.func70, Try.ntmps70
  go_wp2_with (refine wpList_load_row rfl 59 (.tmp 1) rfl w.heap.size rfl 59 (arr D) (0, 0) _ hb Try.underlying59 rfl hi16 ?_)
  go_loop [3, 7] (fun s i => ∃ k : Nat, k ≤ 16 ∧ i = .int .i64 k ∧ s = .int .i64 (sumL (D.take k))) (fun _ i => 16 - (intOf i).toNat)
  case atStart => exact ⟨0, Nat.zero_le _, rfl, rfl⟩
  case round =>
    obtain ⟨k, hk, rfl, rfl⟩ := hrel
    by_cases hlt : k < 16
    · have hkD : k < D.length := by omega
      have hc := T_index D k hkD hlt
      have h1 := hs k (by omega)
      have h2 := hs.next hkD
      have H3 := Lib.hid (sumL_take_succ D k hkD)
      go_wp2
      go_round
      case rel => exact ⟨k + 1, by omega, by go_num, by rw [H3.out]⟩
      case measure => simp [intOf]; omega
    · obtain rfl : k = 16 := by omega
      go_wp2
      go_ret
      exact ⟨ret_i64 (by rw [List.take_of_length_le (by rw [HD.out]; omega)]), (Below.refl _ _).alloc (Nat.le_refl _) _⟩

theorem splice_all {α : Type} (Z X : List α) (h : Z.length = X.length) : splice Z 0 X = X := by simp [splice, ← h]
theorem pad_cells {w : World} {g : Nat} {t : TypeId} {M : List Int} (hlen : M.length ≤ 16) (hb : Blk w g t (arr (pad M))) : ∀ j v, (ints M)[j]? = some v → w.cell? ((⟨g, 0, none⟩ : Addr).add j) = some v := by
  intro j v hv
  rw [Addr.add_lit, Nat.zero_add, hb.cell j]
  have hj : j < M.length := by
    have := (List.getElem?_eq_some_iff.1 hv).1
    simpa using this
  rw [arr_get (pad M) j (by rw [pad_len hlen]; omega), pad_get hlen hj]
  simpa [hj] using hv

theorem list_any (M : List Int) (hM : valid M = true) (w : World) :
    Calls Try.prog 76 #[.agg (arr (pad M))] w fun e w' => ∃ a', e = .returned (.slice a' M.length M.length) ∧ Own w' w.heap.size w'.heap.size 3 (.slice a' M.length M.length) (ints M) ∧ Below w.heap.size w w' := by
  have hbd := valid_bd hM
  have hlen : M.length ≤ 16 := hbd.2.2.2
  have hff : cntD (pad M) = M.length := by
    unfold cntD
    refine ff_eq (fun j hj => ?_) hlen ?_
    · have h1 := preS_of_valid hM j hj hj
      rw [List.getD_eq_getElem?_getD, List.getElem?_eq_getElem (by rw [pad_len hlen]; omega), Option.getD_some, pad_get hlen hj]
      simp; omega
    · rcases Nat.lt_or_ge M.length 16 with h | h
      · right
        rw [List.getD_eq_getElem?_getD, List.getElem?_eq_getElem (by rw [pad_len hlen]; omega), Option.getD_some, pad_get0 hlen (Nat.le_refl _) h]
        simp
      · left; omega
  have HF := Lib.hid hff
  clear hff
  have hi16 : (Try.prog.info? 59).map (·.size) = some (arr (pad M)).size := by rw [arr_size, pad_len hlen]; exact T_info35
  obtain ⟨i0, hi, hz0, hz1, hz2⟩ := T_int'
  have hmk := run_make_ints 22 3 i0 Try.underlying22 hi hz0 hz1 hz2 M.length (by omega)
  have hb := Blk.new w 59 (arr (pad M))
  have HM := Lib.hid hM
  clear hM
  go_enter Try.func76, Try.ntmps76
  go_wp2_with (first
    | (refine wpList_load_row rfl 59 (.tmp 1) rfl w.heap.size rfl 59 (arr (pad M)) (0, 0) _ hb Try.underlying59 rfl hi16 ?_)
    | (go_at_call 109; refine (count_any (pad M) (pad_len hlen) _).mono ?_; rintro e w1 ⟨rfl, hb1⟩; rw [HF.out]; have hbk := hb.below hb1 (by simp))
    | ((with_reducible show wpList _ _ _ (Oper.mk _ (Op.call (Call.mk (Callee.builtin Builtin.copy) _ _)) _ _ _ _ :: _) _ _); go_loud (refine wpList_copy_splice rfl (.tmp 7) (.tmp 8) 22 22 rfl 3 Try.underlying22 (by rw [hi]; simp [hz1]) (some ⟨w1.heap.size, 0, none⟩) (some ⟨w.heap.size, 0, none⟩) M.length M.length 16 16 rfl rfl w1.heap.size 0 (ints (List.replicate M.length 0)) 3 (heap_alloc_new w1 _) (ints M) (by rw [show Nat.min 16 M.length = M.length from Nat.min_eq_right hlen]; simp) (fun _ => ⟨rfl, _, rfl, pad_cells hlen (hbk.alloc _)⟩) (by simp) (ints_one M) w.heap.size w ((((Below.refl _ _).alloc (Nat.le_refl _) _).trans (hb1.mono (by simp))).alloc (by have := hb1.size; simp at this; omega) _) (by have := hb1.size; simp at this; omega) ?_); intro w2 hg2 hb2))
  go_ret
  have hg3 : Blk w2 w1.heap.size 3 (ints M).toArray := by
    have := hg2.out
    rw [splice_all _ _ (by simp)] at this
    exact this
  have ho := hg3.own (lo := w.heap.size) (by have := hb1.size; simp at this; omega) (by simp [maxLen]; omega)
  simp only [ints, List.length_map] at ho
  exact ⟨_, rfl, ho, hb2⟩

/-- what has been counted when k rows are done, and j cells of the next -/
def acc (D : List Int) (k j : Nat) : List Int := (List.range 16).map fun (q : Nat) => cnt ((q : Int) + 1) (D.take k) + (if q < j then 1 else 0)
theorem acc_len (D : List Int) (k j : Nat) : (acc D k j).length = 16 := by simp [acc]
theorem acc_get (D : List Int) (k j : Nat) (h : j < 16) : (acc D k j)[j]'(by rw [acc_len]; exact h) = cnt ((j : Int) + 1) (D.take k) := by simp [acc]
theorem acc_set (D : List Int) (k j : Nat) (_h : j < 16) : (acc D k j).set j (cnt ((j : Int) + 1) (D.take k) + 1) = acc D k (j + 1) := by
  apply List.ext_getElem
  · simp [acc]
  · intro q h1 h2
    simp only [acc, List.length_set, List.length_map, List.length_range] at h1
    by_cases hq : j = q
    · subst hq
      simp [acc]
    · rw [List.getElem_set_ne hq]
      simp only [acc, List.getElem_map, List.getElem_range]
      by_cases h3 : q < j
      · rw [if_pos h3, if_pos (by omega)]
      · rw [if_neg h3, if_neg (by omega)]
theorem acc_next (D : List Int) (k : Nat) (hk : k < D.length) (h0 : 0 ≤ D[k]) (j : Nat) (hj : (j : Int) = D[k]) : acc D k j = acc D (k + 1) 0 := by
  apply List.map_congr_left
  intro q _
  rw [cnt_take_succ _ D k hk]
  by_cases h3 : q < j
  · rw [if_pos h3, if_pos (by omega)]; simp
  · rw [if_neg h3, if_neg (by omega)]; simp
theorem acc_zero (D : List Int) : acc D 0 0 = List.replicate 16 0 := by
  unfold acc
  simp [cnt]
  rfl
theorem acc_end (D : List Int) (hD : D.length = 16) : acc D 16 0 = (List.range 16).map fun (j : Nat) => cnt ((j : Int) + 1) D := by
  unfold acc
  rw [List.take_of_length_le (by omega)]
  simp

theorem conjugate_any (D : List Int) (hD : D.length = 16) (h0 : ∀ k (h : k < D.length), 0 ≤ D[k] ∧ D[k] ≤ 16) (w : World) :
    Calls Try.prog 77 #[.agg (arr D)] w fun e w' => e = .returned (.agg (arr (acc D 16 0))) ∧ Below w.heap.size w w' := by
  have HD := Lib.hid hD
  have hd16 : 16 ≤ D.length := by omega
  have hi16 : (Try.prog.info? 59).map (·.size) = some (arr D).size := by rw [arr_size, hD]; exact T_info35
  have H0 := Lib.hid h0
  clear hD h0
  have hb := Blk.new w 59 (arr D)
  have hb' := (hb.alloc (.cells (arr (List.replicate 16 0)) 59)).alloc (.cells (arr (List.replicate 16 0)) 59)
  go_enter Try.func77, Try.ntmps77
  go_wp2_with (refine wpList_load_row rfl 59 (.tmp 1) rfl w.heap.size rfl 59 (arr D) (0, 0) _ hb' Try.underlying59 rfl hi16 ?_)
  go_loopw [8] (fun i wr => ∃ k : Nat, k ≤ 16 ∧ i = .int .i64 k ∧ Below w.heap.size w wr ∧ Blk wr (w.heap.size + 1) 59 (arr (List.replicate 16 0)) ∧ Blk wr (w.heap.size + 2) 59 (arr (acc D k 0))) (fun i _ => 16 - (intOf i).toNat)
  case atStart =>
    refine ⟨0, Nat.zero_le _, rfl, ?_, ?_, ?_⟩
    · exact (((Below.refl _ _).alloc (Nat.le_refl _) _).alloc (by simp) _).alloc (by simp; omega) _
    · have e := (Blk.new (w.alloc (.cells (arr D) 59)) 59 (arr (List.replicate 16 0))).alloc (.cells (arr (List.replicate 16 0)) 59)
      rw [World.size_alloc] at e
      exact e
    · rw [acc_zero]
      have e := Blk.new ((w.alloc (.cells (arr D) 59)).alloc (.cells (arr (List.replicate 16 0)) 59)) 59 (arr (List.replicate 16 0))
      rw [World.size_alloc, World.size_alloc] at e
      exact e
  case round =>
    obtain ⟨k, hk, rfl, hbel, hb2, hb3⟩ := hrel
    obtain ⟨wo, rfl⟩ : ∃ wo : World, wo = wr := ⟨_, rfl⟩
    by_cases hlt : k < 16
    · have hkD : k < D.length := by omega
      have hc := T_index D k hkD hlt
      have h1 := H0.out k hkD
      go_wp2
      go_loopw [12] (fun i wr => ∃ j : Nat, (j : Int) ≤ D[k] ∧ i = .int .i64 j ∧ Below w.heap.size w wr ∧ Blk wr (w.heap.size + 1) 59 (arr (List.replicate 16 0)) ∧ Blk wr (w.heap.size + 2) 59 (arr (acc D k j))) (fun i _ => 16 - (intOf i).toNat)
      case atStart => exact ⟨0, h1.1, rfl, hbel, hb2, hb3⟩
      case round =>
        obtain ⟨j, hj, rfl, hbel', hb2', hb3'⟩ := hrel
        clear hbel hb2 hb3
        by_cases hltj : (j : Int) < D[k]
        · have hj16 : j < 16 := by omega
          have hcj : wr.cell? ⟨w.heap.size + 2, j, none⟩ = some (.int .i64 (cnt ((j : Int) + 1) (D.take k))) := by rw [hb3'.cell j, arr_get _ j (by rw [acc_len]; exact hj16), acc_get D k j hj16]
          have hfj : wr.frozen? ⟨w.heap.size + 2, j, none⟩ = false := hb3'.free j
          have hbd := cnt_bd ((j : Int) + 1) (D.take k)
          have hbl : (D.take k).length ≤ 16 := by simp; omega
          have HS := Lib.hid (acc_set D k j hj16)
          go_wp2
          go_roundw
          case rel =>
            refine ⟨j + 1, by omega, by go_num, hbel'.setCell (by show w.heap.size ≤ w.heap.size + 2; omega) _, hb2'.off (by show w.heap.size + 1 ≠ w.heap.size + 2; omega) _, ?_⟩
            have e := hb3'.set j (.int .i64 (cnt ((j : Int) + 1) (D.take k) + 1))
            rw [arr_set, HS.out] at e
            exact e
          case measure => simp [intOf]; omega
        · have hje : (j : Int) = D[k] := by omega
          have HE := Lib.hid (acc_next D k hkD h1.1 j hje)
          clear hje
          go_wp2
          go_roundw
          case rel => exact ⟨k + 1, by omega, by go_num, hbel', hb2', by rw [← HE.out]; exact hb3'⟩
          case measure => simp [intOf]; omega
    · obtain rfl : k = 16 := by omega
      have hi2 : (Try.prog.info? 59).map (·.size) = some (arr (acc D 16 0)).size := by rw [arr_size, acc_len]; exact T_info35
      have hsz : (arr (acc D 16 0)).size = (arr (List.replicate 16 0)).size := by rw [arr_size, arr_size, acc_len]; rfl
      go_wp2_with (first | (refine wpList_load_row rfl 59 (.tmp 3) rfl (w.heap.size + 2) rfl 59 (arr (acc D 16 0)) (0, 0) _ hb3 Try.underlying59 rfl hi2 ?_) | (refine wpList_store_row rfl 59 (.tmp 2) (.tmp 22) rfl (w.heap.size + 1) rfl (arr (acc D 16 0)) rfl 59 _ hb2 hi2 hsz (arr_one _) ?_))
      refine bodyPost_ret (results_cell_row rfl _ _ (w.heap.size + 1) 59 (arr (acc D 16 0)) (0, 0) _ rfl hb2.row Try.underlying59 rfl hi2) rfl ?_
      exact ⟨rfl, below_setRow' hbel (by omega) _⟩
end Go.Proofs.Ythafbdpeignccaa
namespace Go.Proofs.Ythafbdpeignccaa
open Go.RowKit NP
set_option maxRecDepth 8000
set_option linter.unusedVariables false

def sumF (L : List Int) : Int := if valid L then sumL L else -1
theorem sumF_yes {L : List Int} (h : valid L = true) : sumF L = sumL L := by simp [sumF, h]
theorem sumF_no {L : List Int} (h : valid L = false) : sumF L = -1 := by simp [sumF, h]
def durF (L : List Int) : Int := if valid L then durS L else -1
theorem durF_yes {L : List Int} (h : valid L = true) : durF L = durS L := by simp [durF, h]
theorem durF_no {L : List Int} (h : valid L = false) : durF L = -1 := by simp [durF, h]
def conjF (L : List Int) : List Int := if valid L then conj L else []
theorem conjF_yes {L : List Int} (h : valid L = true) : conjF L = conj L := by simp [conjF, h]
theorem conjF_no {L : List Int} (h : valid L = false) : conjF L = [] := by simp [conjF, h]
theorem conjF_len (L : List Int) : (conjF L).length ≤ 16 := by
  unfold conjF
  split
  · rename_i h
    rw [conj_len]
    have := headD_bd h
    omega
  · simp
theorem sumF_conjF {L : List Int} (h : valid L = true) : sumF (conjF L) = sumL L := by
  rw [conjF_yes h, sumF_yes (valid_conj h), sumL_conj h]
theorem valid_fits {L : List Int} (h : valid L = true) : sumFits L := fun k hk => by
  have := preS_sum (preS_of_valid h) k hk
  have := (valid_bd h).2.2.2
  omega
theorem sumL_zeros (n : Nat) : sumL (List.replicate n 0) = 0 := by
  induction n with
  | zero => rfl
  | succ n ih => rw [List.replicate_succ, sumL, ih]; rfl
theorem sumL_pad (L : List Int) : sumL (pad L) = sumL L := by unfold pad; rw [sumL_append, sumL_zeros]; omega
theorem pad_nonneg {L : List Int} (h : valid L = true) : ∀ k (hk : k < (pad L).length), 0 ≤ (pad L)[k] ∧ (pad L)[k] ≤ 16 := by
  intro k hk
  have hl := (valid_bd h).2.2.2
  rw [pad_len hl] at hk
  by_cases h1 : k < L.length
  · rw [pad_get hl h1]
    have := preS_of_valid h k h1 h1
    omega
  · rw [pad_get0 hl (by omega) hk]; omega
theorem pad_fits {L : List Int} (h : valid L = true) : sumFits (pad L) := by
  have hl := (valid_bd h).2.2.2
  have key : ∀ k, k ≤ (pad L).length → 0 ≤ sumL ((pad L).take k) ∧ sumL ((pad L).take k) ≤ 16 * k := by
    intro k
    induction k with
    | zero => intro _; simp [sumL]
    | succ k ih =>
      intro hk
      have := ih (by omega)
      have h1 := pad_nonneg h k (by omega)
      rw [sumL_take_succ _ k (by omega)]
      omega
  intro k hk
  have := key k hk
  rw [pad_len hl] at hk
  omega
theorem durD_pad {L : List Int} (h : valid L = true) : durD (pad L) = durS L := by
  have hl := (valid_bd h).2.2.2
  have hn : ∀ j, j ≤ L.length → (∀ i, i < j → decide ((i : Int) < L.getD i 0) = true) → (j = L.length ∨ decide ((j : Int) < L.getD j 0) = false) → durD (pad L) = j ∧ durS L = j := by
    intro j hj hp hq
    refine ⟨ff_eq (fun i hi => ?_) (by omega) ?_, ff_eq hp hj hq⟩
    · have := hp i hi
      rw [List.getD_eq_getElem?_getD, List.getElem?_eq_getElem (by omega), Option.getD_some] at this
      rw [List.getD_eq_getElem?_getD, List.getElem?_eq_getElem (by rw [pad_len hl]; omega), Option.getD_some, pad_get hl (by omega)]
      exact this
    · rcases Nat.lt_or_ge j 16 with h16 | h16
      · right
        rw [List.getD_eq_getElem?_getD, List.getElem?_eq_getElem (by rw [pad_len hl]; omega), Option.getD_some]
        rcases Nat.lt_or_ge j L.length with hjl | hjl
        · rw [pad_get hl hjl]
          rcases hq with hq | hq
          · omega
          · rw [List.getD_eq_getElem?_getD, List.getElem?_eq_getElem (by omega), Option.getD_some] at hq
            exact hq
        · rw [pad_get0 hl hjl h16]; simp
      · left; omega
  have ex : ∀ n, n ≤ L.length → (∀ i, i < n → decide ((i : Int) < L.getD i 0) = true) ∨ ∃ j, j < n ∧ (∀ i, i < j → decide ((i : Int) < L.getD i 0) = true) ∧ decide ((j : Int) < L.getD j 0) = false := by
    intro n
    induction n with
    | zero => intro _; left; intro i hi; omega
    | succ n ih =>
      intro hn
      rcases ih (by omega) with h1 | ⟨j, hj, h1, h2⟩
      · cases hd : decide ((n : Int) < L.getD n 0) with
        | true =>
          left
          intro i hi
          rcases Nat.lt_or_ge i n with h3 | h3
          · exact h1 i h3
          · obtain rfl : i = n := by omega
            exact hd
        | false => right; exact ⟨n, by omega, h1, hd⟩
      · right; exact ⟨j, by omega, h1, h2⟩
  rcases ex L.length (Nat.le_refl _) with h1 | ⟨j, hj, h1, h2⟩
  · have := hn L.length (Nat.le_refl _) h1 (.inl rfl)
    rw [this.1, this.2]
  · have := hn j (by omega) h1 (.inr h2)
    rw [this.1, this.2]





theorem dg_len (L : List Int) : (dg L).length = 16 := by
  unfold dg
  split
  · exact pad_len (valid_bd ‹_›).2.2.2
  · rfl



theorem iValidParts_any (a : Option Addr) (c B : Nat) (L : List Int) (w : World) (h : Rd w B a (ints L)) (hB : B ≤ w.heap.size) (hl : L.length ≤ 4611686018427387904) :
    Calls Try.prog 36 #[.slice a L.length c] w fun e w' => e = .returned (.bool (valid L)) ∧ Below w.heap.size w w' := by
  have hi16 : (Try.prog.info? 59).map (·.size) = some (arr (dg L)).size := by rw [arr_size, dg_len]; exact T_info35
  have hsz : (arr (dg L)).size = (arr (List.replicate 16 0)).size := by rw [arr_size, arr_size, dg_len]; rfl
  go_enter Try.func36, Try.ntmps36
  go_wp2_with (first | (go_at_call 64; refine (diagramOf_any _ _ B L _ h hB hl).mono ?_; rintro e w1 ⟨rfl, hb1⟩) | (refine wpList_store_row rfl 59 (.tmp 3) (.tmp 8) rfl w1.heap.size rfl (arr (dg L)) rfl 59 (arr (List.replicate 16 0)) (Blk.new w1 _ _) hi16 hsz (arr_one _) ?_))
  go_ret
  exact ⟨rfl, below_setRow' (hb1.alloc hb1.size _) (by exact hb1.size) _⟩

theorem iConjugateOf_any (a : Option Addr) (c B : Nat) (L : List Int) (w : World) (h : Rd w B a (ints L)) (hB : B ≤ w.heap.size) (hl : L.length ≤ 4611686018427387904) :
    Calls Try.prog 31 #[.slice a L.length c] w fun e w' => ∃ a' c', e = .returned (.slice a' (conjF L).length c') ∧ Own w' w.heap.size w'.heap.size 3 (.slice a' (conjF L).length c') (ints (conjF L)) ∧ Below w.heap.size w w' := by
  have hi16 : (Try.prog.info? 59).map (·.size) = some (arr (dg L)).size := by rw [arr_size, dg_len]; exact T_info35
  have hsz : (arr (dg L)).size = (arr (List.replicate 16 0)).size := by rw [arr_size, arr_size, dg_len]; rfl
  cases hv : valid L with
  | true =>
    rw [conjF_yes hv]
    have HD := Lib.hid (dg_yes hv)
    have HV := Lib.hid hv
    have HC := Lib.hid ((acc_end (pad L) (pad_len (valid_bd hv).2.2.2)).trans (conj_pad hv))
    go_enter Try.func31, Try.ntmps31
    go_wp2_with (first | (go_at_call 64; refine (diagramOf_any _ _ B L _ h hB hl).mono ?_; rintro e w1 ⟨rfl, hb1⟩) | (refine wpList_store_row rfl 59 (.tmp 3) (.tmp 8) rfl w1.heap.size rfl (arr (dg L)) rfl 59 (arr (List.replicate 16 0)) (Blk.new w1 _ _) hi16 hsz (arr_one _) ?_) | (refine wpList_load_row rfl 59 (.tmp 3) rfl w1.heap.size rfl 59 (arr (dg L)) (0, 0) _ (Blk.new w1 _ _).row Try.underlying59 rfl hi16 ?_) | (go_at_call 77; rw [HD.out]; refine (conjugate_any (pad L) (pad_len (valid_bd HV.out).2.2.2) (pad_nonneg HV.out) _).mono ?_; rintro e w2 ⟨rfl, hb2⟩; rw [HC.out]) | (go_at_call 76; refine (list_any (conj L) (valid_conj HV.out) _).mono ?_; rintro e w3 ⟨a', rfl, ho3, hb3⟩))
    go_ret
    have hb12 : Below w.heap.size w w2 := (below_setRow' (g := w1.heap.size) (hb1.alloc hb1.size (.cells (arr (List.replicate 16 0)) 59)) (by exact hb1.size) (arr (pad L))).trans (hb2.mono (show w.heap.size ≤ _ by have := hb1.size; simp; omega))
    have hs2 := hb12.size
    exact ⟨a', (conj L).length, rfl, ho3.lower hs2, hb12.trans (hb3.mono hs2)⟩
  | false =>
    rw [conjF_no hv]
    go_enter Try.func31, Try.ntmps31
    go_wp2_with (first | (go_at_call 64; refine (diagramOf_any _ _ B L _ h hB hl).mono ?_; rintro e w1 ⟨rfl, hb1⟩) | (refine wpList_store_row rfl 59 (.tmp 3) (.tmp 8) rfl w1.heap.size rfl (arr (dg L)) rfl 59 (arr (List.replicate 16 0)) (Blk.new w1 _ _) hi16 hsz (arr_one _) ?_))
    go_ret
    exact ⟨none, 0, rfl, Own.nil _ _ _, below_setRow' (hb1.alloc hb1.size _) (by exact hb1.size) _⟩

theorem sconjugate_any (a : Option Addr) (c B : Nat) (L : List Int) (w : World) (h : Rd w B a (ints L)) (hB : B ≤ w.heap.size) (hv : valid L = true) :
    Calls Try.prog 79 #[.slice a L.length c] w fun e w' => ∃ a' c', e = .returned (.slice a' (conj L).length c') ∧ Own w' w.heap.size w'.heap.size 3 (.slice a' (conj L).length c') (ints (conj L)) ∧ Below w.heap.size w w' := by
  have hbd := valid_bd hv
  have hhd := headD_bd hv
  obtain ⟨i0, hi, hz0, hz1, hz2⟩ := T_int'
  have HV := Lib.hid hv
  clear hv
  generalize hH : (L.headD 0).toNat = H
  have hHc : (H : Int) = L.headD 0 := by omega
  have hH16 : H ≤ 16 := by omega
  have HH := Lib.hid hH
  clear hH
  have H0 : Hid (∀ h0 : 0 < L.length, L[0] = (H : Int)) := Lib.hid fun h0 => by rw [hHc]; cases L <;> simp at h0 ⊢
  have H1 : Hid (¬ 0 < L.length → H = 0) := Lib.hid fun h0 => by cases L <;> simp at h0 hHc ⊢; omega
  clear hHc hhd
  have HE : Hid (conj L = (List.range H).map fun (j : Nat) => cnt ((j : Int) + 1) L) := Lib.hid (by unfold conj; rw [HH.out])
  go_enter Try.func79, Try.ntmps79
  go_wp2
  go_loopw [3, 4] (fun v i wr => ∃ k : Nat, k ≤ H ∧ i = .int .i64 ((k : Int) + 1) ∧ Below w.heap.size w wr ∧ Own wr w.heap.size wr.heap.size 3 v (ints ((List.range k).map fun (j : Nat) => cnt ((j : Int) + 1) L))) (fun _ i _ => 20 - (intOf i).toNat)
  case atStart => exact ⟨0, Nat.zero_le _, rfl, (Below.refl _ _).alloc (Nat.le_refl _) _, (Own.empty w 3).more⟩
  case round =>
    obtain ⟨k, hk, rfl, hbel, hown⟩ := hrel
    by_cases h0 : 0 < L.length
    · have hR := (h.more hB).below hbel
      obtain ⟨b, o, rfl, _, hc0⟩ := hR.at_ h0
      have hc0' : wr.cell? ⟨b, o, none⟩ = some (.int .i64 H) := by rw [← H0.out h0]; exact hc0
      have h0' : (0 : Int) < (L.length : Int) := by omega
      clear hc0
      by_cases hlt : k < H
      · have hlt' : (k : Int) + 1 ≤ (H : Int) := by omega
        have HO := Lib.hid hown
        clear hown
        go_wp2
        go_loop [5, 6] (fun n i => ∃ j : Nat, j ≤ L.length ∧ i = .int .i64 j ∧ n = .int .i64 (cnt ((k : Int) + 1) (L.take j))) (fun _ i => L.length - (intOf i).toNat)
        case atStart => exact ⟨0, Nat.zero_le _, rfl, rfl⟩
        case round =>
          obtain ⟨j, hj, rfl, rfl⟩ := hrel
          have hbj := cnt_bd ((k : Int) + 1) (L.take j)
          have hbl : (L.take j).length ≤ 16 := by simp; omega
          by_cases hltj : j < L.length
          · obtain ⟨b2, o2, e2, _, hcj⟩ := hR.at_ hltj
            injection e2 with e2; injection e2 with e2 e3; subst e2 e3
            have HS := Lib.hid (cnt_take_succ ((k : Int) + 1) L j hltj)
            by_cases hx : (k : Int) + 1 ≤ L[j]
            · go_wp2
              go_round
              case rel => exact ⟨j + 1, by omega, by go_num, by rw [HS.out, if_pos hx]⟩
              case measure => simp [intOf]; omega
            · have hx' : L[j] < (k : Int) + 1 := by omega
              go_wp2
              go_round
              case rel => exact ⟨j + 1, by omega, by go_num, by rw [HS.out, if_neg hx]; simp⟩
              case measure => simp [intOf]; omega
          · obtain rfl : j = L.length := by omega
            have ht : L.take L.length = L := List.take_of_length_le (Nat.le_refl _)
            rw [ht]
            have hlen2 : (ints ((List.range k).map fun (j : Nat) => cnt ((j : Int) + 1) L)).length = k := by simp
            obtain ⟨vs, hvs⟩ : ∃ vs, vs = ints ((List.range k).map fun (j : Nat) => cnt ((j : Int) + 1) L) := ⟨_, rfl⟩
            have hown := HO.out
            rw [← hvs] at hown hlen2
            have HVS := Lib.hid hvs
            clear hvs
            go_wp2_with (at_builtin; refine wpList_append_o _ rfl (.tmp 34) (.tmp 36) 22 rfl w.heap.size wr.heap.size 3 i0 (.int .i64 0) 8 Try.underlying22 hi hz0 hz1 hz2 rfl _ vs rfl (hown.alloc _) (wr.heap.size + 1) (some ⟨wr.heap.size, 0, none⟩) 1 1 [.int .i64 (cnt ((k : Int) + 1) L)] rfl (Rd.one wr _ _) rfl (by simp; rfl) (by rw [hlen2]; unfold maxLen; omega) (by rw [hlen2]; omega) (by have := hbel.size; simp; omega) ?_; intro v' w1 ho1 hg1 hat1)
            go_roundw
            case rel =>
              refine ⟨k + 1, by omega, by go_num, below_push hbel (Nat.le_refl _) hg1 hown.base, ?_⟩
              rw [HVS.out] at ho1
              simpa [ints, List.range_succ] using ho1
            case measure => simp [intOf]; omega
      · obtain rfl : k = H := by omega
        have HO := Lib.hid hown
        clear hown
        obtain ⟨a', c', rfl⟩ := HO.out.form
        have hlt' : (k : Int) < (k : Int) + 1 := by omega
        go_wp2
        go_ret
        have hl1 : (conj L).length = (ints ((List.range k).map fun (j : Nat) => cnt ((j : Int) + 1) L)).length := by rw [HE.out]; simp
        refine ⟨a', c', by rw [hl1]; rfl, ?_, hbel⟩
        rw [hl1, HE.out]
        exact HO.out
    · have hk0 := H1.out h0
      obtain rfl : k = H := by omega
      have h0' : decide (0 < L.length) = false := decide_eq_false h0
      have h0'' : (L.length : Int) ≤ 0 := by omega
      have HO := Lib.hid hown
      clear hown hk0
      obtain ⟨a', c', rfl⟩ := HO.out.form
      go_wp2
      go_ret
      have hl1 : (conj L).length = (ints ((List.range k).map fun (j : Nat) => cnt ((j : Int) + 1) L)).length := by rw [HE.out]; simp
      refine ⟨a', c', by rw [hl1]; rfl, ?_, hbel⟩
      rw [hl1, HE.out]
      exact HO.out


theorem iValidParts_n (a : Option Addr) (c B : Nat) (L : List Int) (w : World) (n : Nat) (hn : n = L.length) (h : Rd w B a (ints L)) (hB : B ≤ w.heap.size) (hl : L.length ≤ 4611686018427387904) :
    Calls Try.prog 36 #[.slice a n c] w fun e w' => e = .returned (.bool (valid L)) ∧ Below w.heap.size w w' := by
  subst hn
  exact iValidParts_any a c B L w h hB hl
end Go.Proofs.Ythafbdpeignccaa
namespace Go.Proofs.Ythafbdpeignccaa
open Go.RowKit NP
set_option maxRecDepth 8000
set_option linter.unusedVariables false
theorem i64_xor_nonneg (a b : Int) (ha : 0 ≤ a) (ha2 : a < 4611686018427387904) (hb : 0 ≤ b) (hb2 : b < 4611686018427387904) : 0 ≤ bits .xor .i64 a b ∧ bits .xor .i64 a b < 4611686018427387904 := by
  obtain ⟨x, rfl⟩ := Int.eq_ofNat_of_zero_le ha
  obtain ⟨y, rfl⟩ := Int.eq_ofNat_of_zero_le hb
  have hx : x ^^^ y < 2 ^ 62 := Nat.xor_lt_two_pow (by omega) (by omega)
  have h1 : (BitVec.ofInt 64 (x : Int)).toNat = x := by
    rw [BitVec.ofInt_natCast, BitVec.toNat_ofNat]; exact Nat.mod_eq_of_lt (by omega)
  have h2 : (BitVec.ofInt 64 (y : Int)).toNat = y := by
    rw [BitVec.ofInt_natCast, BitVec.toNat_ofNat]; exact Nat.mod_eq_of_lt (by omega)
  have e : bits .xor .i64 (x : Int) (y : Int) = ((x ^^^ y : Nat) : Int) := by
    show IntKind.i64.wrap ((BitVec.ofInt 64 (x : Int) ^^^ BitVec.ofInt 64 (y : Int)).toNat : Int) = _
    rw [BitVec.toNat_xor, h1, h2, IntKind.wrap_i64]
    omega
  rw [e]
  omega
theorem w64 (x : Int) (h : -9223372036854775808 ≤ x ∧ x ≤ 9223372036854775807) : IntKind.i64.wrap x = x := IntWalk.i64_in _ h
theorem tmod_nat (q N : Nat) : (q : Int).tmod (N : Int) = ((q % N : Nat) : Int) := by rw [Int.tmod_eq_emod_of_nonneg (by omega)]; simp
theorem tdiv_nat (q N : Nat) : (q : Int).tdiv (N : Int) = ((q / N : Nat) : Int) := by rw [Int.tdiv_eq_ediv_of_nonneg (by omega)]; simp

/-- block g is a reader over the bytes bs, of which q picks have been made -/
structure Rdr (w : World) (g : Nat) (bs : List Int) (q : Nat) : Prop where
  blk : ∃ a c, Blk w g 87 #[.slice a bs.length c, .int .i64 q] ∧ Rd w g a (bs.map (Value.int .u8))
  len : bs.length ≤ 2000
  byte : ∀ k (h : k < bs.length), 0 ≤ bs[k] ∧ bs[k] ≤ 255
theorem Rdr.lt {w : World} {g : Nat} {bs : List Int} {q : Nat} (h : Rdr w g bs q) : g < w.heap.size := by
  obtain ⟨a, c, h1, h2⟩ := h.blk
  exact h1.lt
theorem Rdr.below {w w' : World} {g : Nat} {bs : List Int} {q : Nat} (h : Rdr w g bs q) (hb : Below (g + 1) w w') : Rdr w' g bs q := by
  obtain ⟨a, c, h1, h2⟩ := h.blk
  exact ⟨⟨a, c, h1.below hb (by omega), h2.below (hb.mono (by omega))⟩, h.len, h.byte⟩
theorem Rdr.dr {w w' : World} {g : Nat} {bs : List Int} {q : Nat} (h : Rdr w g bs q) (hd : Dr w w') : Rdr w' g bs q := h.below (hd.below _)
theorem Rdr.picked {w : World} {g : Nat} {bs : List Int} {q : Nat} (h : Rdr w g bs q) (n : Nat) :
    Rdr ((w.setCell ⟨g, 1, none⟩ (.int .i64 ((q : Int) + 1))).drewN n) g bs (q + 1) ∧ w.grownBy ((w.setCell ⟨g, 1, none⟩ (.int .i64 ((q : Int) + 1))).drewN n) (some g) ∧ ((w.setCell ⟨g, 1, none⟩ (.int .i64 ((q : Int) + 1))).drewN n).heap.size = w.heap.size := by
  obtain ⟨a, c, h1, h2⟩ := h.blk
  have e : w.grownBy ((w.setCell ⟨g, 1, none⟩ (.int .i64 ((q : Int) + 1))).drewN n) (some g) :=
    ⟨rfl, rfl, rfl, by simp [World.setCell], fun k hk hne => Below.heap_setCell w _ _ k (by rintro rfl; exact hne rfl)⟩
  refine ⟨⟨⟨a, c, (h1.set 1 _).drewN n, ?_⟩, h.len, h.byte⟩, e, by simp [World.setCell]⟩
  exact h2.below (((Below.refl g w).setCell (by simp) _).trans ((Dr.n _ n).below g))
theorem Rdr.slot {w : World} {g : Nat} {bs : List Int} {q : Nat} {k : Nat} {a : Option Addr} (h2 : Rd w g a (bs.map (Value.int .u8))) (hk : k < bs.length) : ∃ b o, a = some ⟨b, o, none⟩ ∧ b < g ∧ ∀ j (h : j < bs.length), w.cell? ⟨b, o + j, none⟩ = some (.int .u8 bs[j]) := by
  obtain ⟨b, o, h3, h4, h5⟩ := h2 (by intro e; simp at e; subst e; simp at hk)
  exact ⟨b, o, h3, h4, fun j hj => h5 j _ (by simp [hj])⟩

def Picked (g : Nat) (bs : List Int) (q : Nat) (n : Int) (w : World) (e : Ending) (w' : World) : Prop :=
  ∃ x : Int, e = .returned (.int .i64 x) ∧ 0 ≤ x ∧ (1 ≤ n → x < n) ∧ Rdr w' g bs (q + 1) ∧ w.grownBy w' (some g) ∧ w'.heap.size = w.heap.size

theorem pick_low (g q : Nat) (n : Int) (bs : List Int) (w : World) (hn : n < 1) (hq : q ≤ 1000000) (h : Rdr w g bs q) :
    Calls Try.prog 57 #[.pointer (some ⟨g, 0, none⟩), .int .i64 n] w (Picked g bs q n w) := by
  obtain ⟨a, c, hb, hr⟩ := h.blk
  have HP := Lib.hid h.picked
  have hc0 := hb.cell 0
  have hc1 := hb.cell 1
  have hf1 := hb.free 1
  simp at hc0 hc1
  go_enter Try.func57, Try.ntmps57
  go_wp2_with fail
  go_ret
  have hp := HP.out 0
  exact ⟨0, rfl, by omega, by omega, hp.1, hp.2.1, hp.2.2⟩

theorem pick_bare (g q : Nat) (n : Int) (w : World) (hn : 1 ≤ n) (hq : q ≤ 1000000) (h : Rdr w g [] q) :
    Calls Try.prog 57 #[.pointer (some ⟨g, 0, none⟩), .int .i64 n] w (Picked g [] q n w) := by
  obtain ⟨a, c, hb, hr⟩ := h.blk
  have HP := Lib.hid h.picked
  have hc0 := hb.cell 0
  have hc1 := hb.cell 1
  have hf1 := hb.free 1
  simp at hc0 hc1
  go_enter Try.func57, Try.ntmps57
  go_wp2_with fail
  go_ret
  have hp := HP.out 0
  exact ⟨0, rfl, by omega, by omega, hp.1, hp.2.1, hp.2.2⟩

theorem pick_near (g q : Nat) (n : Int) (bs : List Int) (w : World) (hn : 1 ≤ n) (hn2 : n ≤ 4294967296) (hq : q ≤ 1000000) (h : Rdr w g bs q) (hlt : q < bs.length) :
    Calls Try.prog 57 #[.pointer (some ⟨g, 0, none⟩), .int .i64 n] w (Picked g bs q n w) := by
  obtain ⟨a, c, hb, hr⟩ := h.blk
  have HP := Lib.hid h.picked
  obtain ⟨b, o, rfl, hbg, hcell⟩ := Rdr.slot (q := q) hr hlt
  have hne : b ≠ g := by omega
  have hl := h.len
  have hc0 := hb.cell 0
  have hc1 := hb.cell 1
  have hf1 := hb.free 1
  simp at hc0 hc1
  have hv := h.byte q hlt
  have hcx := hcell q hlt
  clear hcell h
  obtain ⟨x1, hx1⟩ : ∃ x1, x1 = bs[q] := ⟨_, rfl⟩
  rw [← hx1] at hcx hv
  clear hx1
  obtain ⟨N, hN⟩ : ∃ N, N = bs.length := ⟨_, rfl⟩
  rw [← hN] at hc0 hlt hl
  clear hN hb hr
  have hN0 : ¬ N = 0 := by omega
  have hl1 : ((N : Int) == 0) = false := by simp; omega
  go_enter Try.func57, Try.ntmps57
  go_wp2_with fail
  go_ret
  have hp := HP.out 0
  refine ⟨x1 % n, rfl, Int.emod_nonneg _ (by omega), fun _ => Int.emod_lt_of_pos _ (by omega), hp.1, hp.2.1, hp.2.2⟩

set_option maxHeartbeats 400000 in
theorem pick_far (g q : Nat) (n : Int) (bs : List Int) (w : World) (hn : 1 ≤ n) (hn2 : n ≤ 4294967296) (hq : q ≤ 1000000) (h : Rdr w g bs q) (h0 : 0 < bs.length) (hq2 : bs.length ≤ q) :
    Calls Try.prog 57 #[.pointer (some ⟨g, 0, none⟩), .int .i64 n] w (Picked g bs q n w) := by
  obtain ⟨a, c', hb, hr⟩ := h.blk
  have HP := Lib.hid h.picked
  obtain ⟨b, o, rfl, hbg, hcell⟩ := Rdr.slot (q := q) hr h0
  have hlen := h.len
  have c1 := hcell _ (Nat.mod_lt q h0)
  have c2 := hcell _ (Nat.mod_lt (q * 7 + 3) h0)
  have v1 := h.byte _ (Nat.mod_lt q h0)
  have v2 := h.byte _ (Nat.mod_lt (q * 7 + 3) h0)
  clear hcell h
  obtain ⟨x1, hx1⟩ : ∃ x, x = bs[q % bs.length]'(Nat.mod_lt q h0) := ⟨_, rfl⟩
  obtain ⟨x2, hx2⟩ : ∃ x, x = bs[(q * 7 + 3) % bs.length]'(Nat.mod_lt _ h0) := ⟨_, rfl⟩
  rw [← hx1] at c1 v1
  rw [← hx2] at c2 v2
  clear hx1 hx2
  obtain ⟨N, hN⟩ : ∃ N, N = bs.length := ⟨_, rfl⟩
  rw [← hN] at hb c1 c2 h0 hq2 hlen
  clear hN hr
  have hc0 := hb.cell 0
  have hc1 := hb.cell 1
  have hf1 := hb.free 1
  simp at hc0 hc1
  have hne : b ≠ g := by omega
  have hl1 : ((N : Int) == 0) = false := by simp; omega
  have hl2 : (0 : Int) < (N : Int) := by omega
  have hN0 : ¬ N = 0 := by omega
  have hqN : q / N ≤ q := Nat.div_le_self _ _
  obtain ⟨i1, hi1, m1, e1⟩ : ∃ i1 : Nat, q % N = i1 ∧ i1 < N ∧ (q : Int).tmod (N : Int) = (i1 : Int) := ⟨_, rfl, Nat.mod_lt _ h0, tmod_nat q N⟩
  obtain ⟨i2, hi2, m2, e4'⟩ : ∃ i2 : Nat, (q * 7 + 3) % N = i2 ∧ i2 < N ∧ ((q * 7 + 3 : Nat) : Int).tmod (N : Int) = (i2 : Int) := ⟨_, rfl, Nat.mod_lt _ h0, tmod_nat _ N⟩
  obtain ⟨r1, hr1, e2⟩ : ∃ r1 : Int, r1 = ((q * 7 : Nat) : Int) ∧ IntKind.i64.wrap ((q : Int) * 7) = r1 := ⟨_, rfl, by rw [w64 _ (by omega)]; simp⟩
  obtain ⟨r2, hr2, e3⟩ : ∃ r2 : Int, r2 = ((q * 7 + 3 : Nat) : Int) ∧ IntKind.i64.wrap (r1 + 3) = r2 := ⟨_, rfl, by rw [hr1, w64 _ (by omega)]; simp⟩
  rw [← hr2] at e4'
  rw [hi1] at c1
  rw [hi2] at c2
  obtain ⟨d, hd, e12, e12'⟩ : ∃ d : Int, (0 ≤ d ∧ d ≤ 1000000) ∧ IntKind.i64.wrap ((q : Int).tdiv (N : Int)) = d ∧ IntKind.i64.wrap ((q : Int) / (N : Int)) = d := by
    obtain ⟨dd, hdd, hdq⟩ : ∃ dd : Nat, q / N = dd ∧ dd ≤ q := ⟨_, rfl, Nat.div_le_self _ _⟩
    have e : ((q : Int) / (N : Int)) = (dd : Int) := by rw [← hdd]; simp
    refine ⟨(dd : Int), by omega, by rw [tdiv_nat, hdd, w64 _ (by omega)], by rw [e, w64 _ (by omega)]⟩
  obtain ⟨y1, hy1, e7⟩ : ∃ y : Int, (0 ≤ y ∧ y ≤ 100000) ∧ IntKind.i64.wrap (x1 * 131) = y := ⟨_, by rw [w64 _ (by omega)]; omega, rfl⟩
  obtain ⟨y2, hy2, e8⟩ : ∃ y : Int, (0 ≤ y ∧ y ≤ 1000000) ∧ IntKind.i64.wrap (x2 * 1117) = y := ⟨_, by rw [w64 _ (by omega)]; omega, rfl⟩
  obtain ⟨y3, hy3, e9⟩ : ∃ y : Int, (0 ≤ y ∧ y ≤ 2000000) ∧ IntKind.i64.wrap (y1 + y2) = y := ⟨_, by rw [w64 _ (by omega)]; omega, rfl⟩
  obtain ⟨y4, hy4, e10⟩ : ∃ y : Int, (0 ≤ y ∧ y ≤ 100000000) ∧ IntKind.i64.wrap ((q : Int) * 29) = y := ⟨_, by rw [w64 _ (by omega)]; omega, rfl⟩
  obtain ⟨y5, hy5, e11⟩ : ∃ y : Int, (0 ≤ y ∧ y ≤ 200000000) ∧ IntKind.i64.wrap (y3 + y4) = y := ⟨_, by rw [w64 _ (by omega)]; omega, rfl⟩
  obtain ⟨y6, hy6, e13⟩ : ∃ y : Int, (0 ≤ y ∧ y ≤ 100000000) ∧ IntKind.i64.wrap (d * 53) = y := ⟨_, by rw [w64 _ (by omega)]; omega, rfl⟩
  obtain ⟨y7, hy7, e14⟩ : ∃ y : Int, (0 ≤ y ∧ y ≤ 400000000) ∧ IntKind.i64.wrap (y5 + y6) = y := ⟨_, by rw [w64 _ (by omega)]; omega, rfl⟩
  have e5 : IntKind.i64.wrap x1 = x1 := w64 _ (by omega)
  have e6 : IntKind.i64.wrap x2 = x2 := w64 _ (by omega)
  clear hi1 hi2 hr1 hr2
  have hi1' : (0 : Int) ≤ (i1 : Int) := by omega
  have hi2' : (0 : Int) ≤ (i2 : Int) := by omega
  have hi1'' : (i1 : Int) < (N : Int) := by omega
  have hi2'' : (i2 : Int) < (N : Int) := by omega
  go_enter Try.func57, Try.ntmps57
  go_wp2_with fail
  go_quiet (fail)
  go_wp2
  go_ret
  have hp := HP.out nq
  have hx := i64_xor_nonneg y7 (y7 / 64) (by omega) (by omega) (by omega) (by omega)
  have ht : (bits .xor .i64 y7 (y7 / 64)).tmod n = (bits .xor .i64 y7 (y7 / 64)) % n := Int.tmod_eq_emod_of_nonneg hx.1
  refine ⟨_, rfl, ?_, fun _ => ?_, hp.1, hp.2.1, hp.2.2⟩
  · show 0 ≤ (bits .xor .i64 y7 (y7 / 64)).tmod n
    rw [ht]; exact Int.emod_nonneg _ (by omega)
  · show (bits .xor .i64 y7 (y7 / 64)).tmod n < n
    rw [ht]; exact Int.emod_lt_of_pos _ (by omega)

theorem pick_any (g q : Nat) (n : Int) (bs : List Int) (w : World) (hn2 : n ≤ 4294967296) (hq : q ≤ 1000000) (h : Rdr w g bs q) :
    Calls Try.prog 57 #[.pointer (some ⟨g, 0, none⟩), .int .i64 n] w (Picked g bs q n w) := by
  by_cases hn : n < 1
  · exact pick_low g q n bs w hn hq h
  · rcases Nat.eq_zero_or_pos bs.length with h0 | h0
    · obtain rfl := List.eq_nil_of_length_eq_zero h0
      exact pick_bare g q n w (by omega) hq h
    · rcases Nat.lt_or_ge q bs.length with h1 | h1
      · exact pick_near g q n bs w (by omega) hn2 hq h h1
      · exact pick_far g q n bs w (by omega) hn2 hq h h0 h1

/-- .one(list): one of the numbers of a list -/
theorem one_any (g q B c : Nat) (a : Option Addr) (M : List Int) (bs : List Int) (w : World) (hM : 0 < M.length) (hM2 : M.length ≤ 4294967296) (hq : q ≤ 1000000) (h : Rdr w g bs q) (hr : Rd w B a (ints M)) (hB : ∀ b o, a = some ⟨b, o, none⟩ → b ≠ g) :
    Calls Try.prog 56 #[.pointer (some ⟨g, 0, none⟩), .slice a M.length c] w fun e w' => ∃ k, ∃ hk : k < M.length, e = .returned (.int .i64 M[k]) ∧ Rdr w' g bs (q + 1) ∧ w.grownBy w' (some g) ∧ w'.heap.size = w.heap.size := by
  go_enter Try.func56, Try.ntmps56
  go_wp2_with fail
  refine (pick_any g q _ bs _ (by omega) hq h).mono ?_
  rintro e w1 ⟨x, rfl, hx0, hx1, h1, hg1, hs1⟩
  obtain ⟨k, rfl⟩ := Int.eq_ofNat_of_zero_le hx0
  have hk : k < M.length := by have := hx1 (by omega); omega
  obtain ⟨b, o, rfl, hb, hc⟩ := hr.at_ hk
  have hlt := World.block_lt_of_cell? _ _ hc
  have hc' : w1.cell? ⟨b, o + k, none⟩ = some (.int .i64 M[k]) := (World.cell?_of_block (hg1.block b hlt (by have := hB b o rfl; simpa using this))).trans hc
  clear hx1
  go_wp2_with fail
  go_ret
  exact ⟨k, hk, rfl, h1, hg1, hs1⟩

theorem rd_new (w : World) (cs : Array Value) (t : TypeId) : Rd (w.alloc (.cells cs t)) (w.heap.size + 1) (some ⟨w.heap.size, 0, none⟩) cs.toList := fun _ =>
  ⟨w.heap.size, 0, rfl, by omega, fun k v hk => by rw [Nat.zero_add, (show (w.alloc (.cells cs t)).heap[w.heap.size]? = some (.cells cs t (0, 0)) from heap_alloc_new w _) |> cell_of_row _ w.heap.size k cs t (0, 0)]; simpa using hk⟩

/-- block g alone, and new blocks, have turned -/
theorem chg_trans {a b c : World} {g : Nat} (h : a.grownBy b (some g)) (k : b.grownBy c (some g)) : a.grownBy c (some g) :=
  ⟨k.os.trans h.os, k.tape.trans h.tape, k.output.trans h.output, Nat.le_trans h.size k.size, fun i hi hne => (k.block i (Nat.lt_of_lt_of_le hi h.size) hne).trans (h.block i hi hne)⟩
theorem chg_alloc {a b : World} {g : Nat} (h : a.grownBy b (some g)) (o : Obj) : a.grownBy (b.alloc o) (some g) :=
  chg_trans h (World.grownBy_alloc b o _)
theorem chg_below {a b c : World} {g : Nat} (h : a.grownBy b (some g)) (k : Below a.heap.size b c) : a.grownBy c (some g) :=
  ⟨k.os.trans h.os, k.tape.trans h.tape, k.output.trans h.output, Nat.le_trans h.size k.size, fun i hi hne => (k.block i hi).trans (h.block i hi hne)⟩
theorem chg_row {a b c : World} {g : Nat} {row : Option Nat} (h : a.grownBy b (some g)) (k : b.grownBy c row) (hr : ∀ x, row = some x → a.heap.size ≤ x) : a.grownBy c (some g) :=
  chg_below h ((Below.refl a.heap.size b).grown k h.size hr)
theorem chg_low {a b : World} {g : Nat} (h : a.grownBy b (some g)) : Below g a b ∨ a.heap.size ≤ g := by
  rcases Nat.lt_or_ge g a.heap.size with hg | hg
  · exact .inl ⟨h.os, h.tape, h.output, h.size, fun k hk => h.block k (by omega) (by simp; omega)⟩
  · exact .inr hg
theorem Rdr.row {w w' : World} {g : Nat} {bs : List Int} {q : Nat} {row : Option Nat} (h : Rdr w g bs q) (hg : w.grownBy w' row) (hr : ∀ x, row = some x → g < x) : Rdr w' g bs q :=
  h.below ((Below.refl (g + 1) w).grown hg h.lt fun k hk => hr k hk)

theorem Own.chg {w w' : World} {lo hi g : Nat} {e : TypeId} {v : Value} {vs : List Value} (h : Own w lo hi e v vs) (hg : w.grownBy w' (some g)) (hlt : g < lo) : Own w' lo hi e v vs :=
  h.grown hg (.inr fun e => by have := h.base g e; omega)

theorem newReader_any (a : Option Addr) (c B : Nat) (bs : List Int) (w : World) (h : Rd w B a (bs.map (Value.int .u8))) (hB : B ≤ w.heap.size) (hb : ∀ n ∈ bs, (Lit.int .u8 n).wf = true) (hl : bs.length ≤ 1048576) (hc : bs.length ≤ c) :
    Calls Try.prog 55 #[.slice a bs.length c] w fun e w' => e = .returned (.pointer (some ⟨w.heap.size, 0, none⟩)) ∧ Rdr w' w.heap.size (bs.take 2000) 0 ∧ Below w.heap.size w w' ∧ w'.heap.size = w.heap.size + 1 := by
  have hbb : ∀ k (h : k < (bs.take 2000).length), 0 ≤ (bs.take 2000)[k] ∧ (bs.take 2000)[k] ≤ 255 := by
    intro k hk
    have := hb (bs.take 2000)[k] (List.mem_of_mem_take (List.getElem_mem hk))
    generalize (bs.take 2000)[k] = x at this ⊢
    simp [Lit.wf, IntKind.min, IntKind.max, IntKind.bits, IntKind.signed] at this
    omega
  by_cases h2 : 2000 < bs.length
  · have hcell : ∃ b o, a = some ⟨b, o, none⟩ := by
      obtain ⟨b, o, h1, _⟩ := h (by intro e; simp at e; subst e; simp at h2)
      exact ⟨b, o, h1⟩
    obtain ⟨b, o, rfl⟩ := hcell
    have hlen : (bs.take 2000).length = 2000 := by simp; omega
    have hc2 : (2000 : Int) ≤ (c : Int) := by omega
    have hR : Rd w w.heap.size (some ⟨b, o, none⟩) ((bs.take 2000).map (Value.int .u8)) := by have := (h.more hB).take 2000; rwa [← List.map_take] at this
    have hr : ∀ c', Rdr (w.alloc (.cells #[.slice (some ⟨b, o, none⟩) 2000 c', .int .i64 0] 87)) w.heap.size (bs.take 2000) 0 := fun c' =>
      ⟨⟨_, c', by rw [hlen]; exact Blk.new w _ _, hR.alloc (Nat.le_refl _) _⟩, by rw [hlen]; omega, hbb⟩
    have HR := Lib.hid hr
    clear hr hlen hbb hb
    go_enter Try.func55, Try.ntmps55
    go_wp2_with fail
    go_ret
    exact ⟨rfl, HR.out _, (Below.refl _ _).alloc (Nat.le_refl _) _, by simp⟩
  · have hlen : bs.take 2000 = bs := List.take_of_length_le (by omega)
    rw [hlen] at hbb ⊢
    have hr : Rdr (w.alloc (.cells #[.slice a bs.length c, .int .i64 0] 87)) w.heap.size bs 0 :=
      ⟨⟨_, c, Blk.new w _ _, (h.more hB).alloc (Nat.le_refl _) _⟩, by omega, hbb⟩
    have HR := Lib.hid hr
    clear hr hlen hbb hb
    go_enter Try.func55, Try.ntmps55
    go_wp2_with fail
    go_ret
    exact ⟨rfl, HR.out, (Below.refl _ _).alloc (Nat.le_refl _) _, by simp⟩
end Go.Proofs.Ythafbdpeignccaa
namespace Go.Proofs.Ythafbdpeignccaa
open Go.RowKit NP
set_option maxRecDepth 8000
set_option linter.unusedVariables false
attribute [local go_sem ↓] Go.wp_at_zero Go.wp_at_succ
/-- where x goes -/
def posOf (x : Int) (M : List Int) : Nat := ff (fun (j : Nat) => decide (x ≤ M.getD j 0)) M.length
def insK (M : List Int) (x : Int) : List Int := M.take (posOf x M) ++ x :: M.drop (posOf x M)
def mrg (L : List Int) : List Int := L.foldl insK []
set_option maxRecDepth 100000 in
set_option maxHeartbeats 1000000 in
theorem merge_any (a : Option Addr) (c B : Nat) (L : List Int) (w : World) (h : Rd w B a (ints L)) (hB : B ≤ w.heap.size) (hl : L.length ≤ 1048576) :
    Calls Try.prog 60 #[.slice a L.length c] w fun e w' => ∃ a' c', e = .returned (.slice a' (mrg L).length c') ∧ Own w' w.heap.size w'.heap.size 3 (.slice a' (mrg L).length c') (ints (mrg L)) ∧ Below w.heap.size w w' := by
  obtain ⟨i0, hi, hz0, hz1, hz2⟩ := T_int'
  go_enter Try.func60, Try.ntmps60
  go_wp2
  go_loopw [3, 4] (fun v i wr => ∃ k : Nat, k ≤ L.length ∧ i = .int .i64 k ∧ Below w.heap.size w wr ∧ (∃ M, Hid (M = (L.take k).foldl insK []) ∧ M.length = k ∧ ∃ g cc, v = .slice (some ⟨g, 0, none⟩) M.length cc ∧ M.length ≤ cc ∧ Own wr w.heap.size wr.heap.size 3 (.slice (some ⟨g, 0, none⟩) M.length cc) (ints M))) (fun _ i _ => L.length - (intOf i).toNat)
  case atStart => exact ⟨0, Nat.zero_le _, rfl, (Below.refl _ _).alloc (Nat.le_refl _) _, [], Lib.hid rfl, rfl, w.heap.size, 0, rfl, Nat.le_refl _, (Own.empty w 3).more⟩
  case round =>
    obtain ⟨k, hk, rfl, hbel, M, HM, hMl, g, cc, rfl, hcc, hown⟩ := hrel
    by_cases hlt : k < L.length
    · obtain ⟨b, o, rfl, hbB, hc0⟩ := ((h.more hB).below hbel).at_ hlt
      obtain ⟨wo, rfl⟩ : ∃ wo : World, wo = wr := ⟨_, rfl⟩
      have hMb : M.length ≤ 1048576 := by omega
      have HL := Lib.hid hMl
      clear hMl
      have HO := Lib.hid hown
      clear hown
      go_wp2
      go_loopw [5] (fun j wr => ∃ q : Nat, q ≤ M.length ∧ j = .int .i64 q ∧ Dr wo wr ∧ Hid (∀ r, r < q → (fun (r : Nat) => decide (L[k] ≤ M.getD r 0)) r = true)) (fun j _ => M.length - (intOf j).toNat)
      case atStart => exact ⟨0, Nat.zero_le _, rfl, Dr.refl _, Lib.hid fun r hr => by omega⟩
      case round =>
        obtain ⟨q, hq, rfl, hdr, HP⟩ := hrel
        have hown := HO.out.dr hdr
        have hcr : wr.cell? ⟨b, o + k, none⟩ = some (.int .i64 L[k]) := by
          have := (hdr.below (w.heap.size)).cell (p := ⟨b, o + k, none⟩) (by exact hbB)
          rw [this]; exact hc0
        have hqc : (q : Int) ≤ (cc : Int) := by omega
        have hq0 : (0 : Int) ≤ (q : Int) := by omega
        have hqM' : (q : Int) ≤ (M.length : Int) := by omega
        by_cases hqM : q < M.length
        · obtain ⟨g', cc', e, hlo, hhi, hcM, -⟩ := hown.at_ (k := q) (by simpa using hqM)
          have hcM' : wr.cell? ⟨g, q, none⟩ = some (.int .i64 M[q]) := by
            injection e with e; injection e with e; injection e with e; subst e
            simpa using hcM
          clear hcM e
          by_cases hx : L[k] ≤ M[q]
          · go_wp2_with fail
            go_quiet (fail)
            go_wp2
            go_roundw
            case rel => exact ⟨q + 1, by omega, by go_num, hdr.drewN _, Lib.hid fun r hr => by
              rcases Nat.lt_or_ge r q with h | h
              · exact HP.out r h
              · obtain rfl : r = q := by omega
                simp [List.getD, hqM]; omega⟩
            case measure => simp [intOf]; omega
          · have hx' : M[q] < L[k] := by omega
            have HQ : Hid (posOf L[k] M = q) := Lib.hid (ff_eq HP.out hq (.inr (by simp [List.getD, hqM]; omega)))
            clear hx
            go_wp2_with fail
            go_quiet (fail)
            go_wp2_with fail
            obtain ⟨w2, hw2⟩ : ∃ w2, w2 = wr.drewN nq := ⟨_, rfl⟩
            rw [← hw2]
            have hd2 : Dr wo w2 := by rw [hw2]; exact hdr.drewN nq
            clear hw2 hcr hown hdr
            have hown := HO.out.dr hd2
            have hbel2 := hbel.trans (hd2.below _)
            have hcx : w2.cell? ⟨b, o + k, none⟩ = some (.int .i64 L[k]) := by
              rw [(hd2.below (w.heap.size)).cell (p := ⟨b, o + k, none⟩) (by exact hbB)]; exact hc0
            have hRT : Rd w2 w2.heap.size (some ⟨g, 0, none⟩) (ints (M.take q)) := by have := (hown.rd.more hown.le).take q; simpa [ints, List.map_take] using this
            have hRC : Rd w2 w2.heap.size (if cc = q then some ⟨g, 0, none⟩ else some ⟨g, q, none⟩) (ints (M.drop q)) := by have := (hown.rd.more hown.le).cutAt (cap := cc) q (by simpa using hcc); simpa [ints, List.map_drop] using this
            have hln := hown.le
            have hb2 : b < w2.heap.size := by have := hbel2.size; omega
            have HLT := Lib.hid (len_take hq)
            have HLD := Lib.hid (len_drop (M := M) (q := q))
            have hMl : M.length ≤ 1048576 := by have := HL.out; omega
            clear hown
            go_region_law (first | (refine step_append_b _ (by rfl) (.tmp 30) (.tmp 33) 22 (by rfl) w2.heap.size _ 3 i0 (.int .i64 0) 8 Try.underlying22 hi hz0 hz1 hz2 rfl _ [] (by rfl) w2 (by go_grown) (Nat.le_refl _) (by first | exact (own_empty1 w2 _ (Nat.le_refl _)).drew | exact ((own_empty1 w2 _ (Nat.le_refl _)).alloc _).drew | exact (own_empty2 w2 _ _ (Nat.le_refl _)).drew) w2.heap.size (some ⟨g, 0, none⟩) q cc (ints (M.take q)) (by rfl) (hRT.below (by go_grown)) HLT.out (ints_one _) (by simp only [List.length_nil]; omega) (by omega) ?_; intro v1 w3 ho1 hb3 hg1; have hcx3 : w3.cell? ⟨b, o + k, none⟩ = some (.int .i64 L[k]) := (hb3.cell (p := ⟨b, o + k, none⟩) hb2).trans hcx) | (refine step_append_b _ (by rfl) (.tmp 34) (.tmp 39) 22 (by rfl) w2.heap.size _ 3 i0 (.int .i64 0) 8 Try.underlying22 hi hz0 hz1 hz2 rfl _ _ (by rfl) w2 (by first | exact hb3 | exact hb3.alloc hb3.size _) (Nat.le_refl _) (by first | exact ho1 | exact ho1.alloc _) _ _ 1 1 [.int .i64 L[k]] (by rfl) (by first | exact Rd.one w3 _ _ | exact (rd_one2 w2 _ _ _).drew.apart hg1 (by simp) (by omega) | exact (rd_one3 w2 _ _ _).drew.apart hg1 (by simp) (by omega)) rfl (by simp; rfl) (by simp; omega) (by omega) ?_; intro v2 w4 ho2 hb4 hg2) | (refine step_append_b _ (by rfl) (.tmp 40) (.tmp 43) 22 (by rfl) w2.heap.size _ 3 i0 (.int .i64 0) 8 Try.underlying22 hi hz0 hz1 hz2 rfl _ _ (by rfl) w2 hb4 (Nat.le_refl _) ho2 _ _ (M.length - q) (cc - q) (ints (M.drop q)) (by rfl) (hRC.below hb4) HLD.out (ints_one _) (by simp; omega) (by omega) ?_; intro v3 w5 ho3 hb5 hg3))
            all_goals
              have hvs : ([] ++ ints (M.take q)) ++ [Value.int .i64 L[k]] ++ ints (M.drop q) = ints (insK M L[k]) := by unfold insK; rw [HQ.out]; simp [ints]
              rw [hvs] at ho3
              clear hvs
              have hlen : (insK M L[k]).length = M.length + 1 := by unfold insK; rw [HQ.out]; simp; omega
              have HI := Lib.hid (by rw [List.take_succ_eq_append_getElem hlt, List.foldl_append, ← HM.out]; rfl : insK M L[k] = (L.take (k + 1)).foldl insK [])
              obtain ⟨M', hM'⟩ : ∃ M', M' = insK M L[k] := ⟨_, rfl⟩
              rw [← hM'] at ho3 hlen HI
              clear hM'
              obtain ⟨g3, c3, rfl, hc3⟩ := ho3.formN (by simp; omega)
              have hl0 : (ints M').length = M'.length := by simp
              rw [hl0] at hc3
              have HO3 := Lib.hid ho3
              clear ho3
              have HLEN := Lib.hid hlen
              clear hlen
              rw [hl0]
              rw [hl0] at HO3
              have HL0 := Lib.hid hl0
              clear hl0
              go_wp2
              go_roundw
              case rel => exact ⟨k + 1, by omega, by go_num, (hbel2.trans (hb5.mono hbel2.size)), M', HI, by rw [HLEN.out, HL.out], g3, c3, rfl, hc3, HO3.out.lower hbel2.size⟩
              case measure => simp [intOf]; omega
        · have hov : decide (q < M.length) = false := decide_eq_false hqM
          have HQ : Hid (posOf L[k] M = q) := Lib.hid (ff_eq HP.out hq (.inl (by omega)))
          go_wp2_with fail
          go_quiet (fail)
          go_wp2_with fail
          obtain ⟨w2, hw2⟩ : ∃ w2, w2 = wr.drewN nq := ⟨_, rfl⟩
          rw [← hw2]
          have hd2 : Dr wo w2 := by rw [hw2]; exact hdr.drewN nq
          clear hw2 hcr hown hdr
          have hown := HO.out.dr hd2
          have hbel2 := hbel.trans (hd2.below _)
          have hcx : w2.cell? ⟨b, o + k, none⟩ = some (.int .i64 L[k]) := by
            rw [(hd2.below (w.heap.size)).cell (p := ⟨b, o + k, none⟩) (by exact hbB)]; exact hc0
          have hRT : Rd w2 w2.heap.size (some ⟨g, 0, none⟩) (ints (M.take q)) := by have := (hown.rd.more hown.le).take q; simpa [ints, List.map_take] using this
          have hRC : Rd w2 w2.heap.size (if cc = q then some ⟨g, 0, none⟩ else some ⟨g, q, none⟩) (ints (M.drop q)) := by have := (hown.rd.more hown.le).cutAt (cap := cc) q (by simpa using hcc); simpa [ints, List.map_drop] using this
          have hln := hown.le
          have hb2 : b < w2.heap.size := by have := hbel2.size; omega
          have HLT := Lib.hid (len_take hq)
          have HLD := Lib.hid (len_drop (M := M) (q := q))
          have hMl : M.length ≤ 1048576 := by have := HL.out; omega
          clear hown
          go_region_law (first | (refine step_append_b _ (by rfl) (.tmp 30) (.tmp 33) 22 (by rfl) w2.heap.size _ 3 i0 (.int .i64 0) 8 Try.underlying22 hi hz0 hz1 hz2 rfl _ [] (by rfl) w2 (by go_grown) (Nat.le_refl _) (by first | exact (own_empty1 w2 _ (Nat.le_refl _)).drew | exact ((own_empty1 w2 _ (Nat.le_refl _)).alloc _).drew | exact (own_empty2 w2 _ _ (Nat.le_refl _)).drew) w2.heap.size (some ⟨g, 0, none⟩) q cc (ints (M.take q)) (by rfl) (hRT.below (by go_grown)) HLT.out (ints_one _) (by simp only [List.length_nil]; omega) (by omega) ?_; intro v1 w3 ho1 hb3 hg1; have hcx3 : w3.cell? ⟨b, o + k, none⟩ = some (.int .i64 L[k]) := (hb3.cell (p := ⟨b, o + k, none⟩) hb2).trans hcx) | (refine step_append_b _ (by rfl) (.tmp 34) (.tmp 39) 22 (by rfl) w2.heap.size _ 3 i0 (.int .i64 0) 8 Try.underlying22 hi hz0 hz1 hz2 rfl _ _ (by rfl) w2 (by first | exact hb3 | exact hb3.alloc hb3.size _) (Nat.le_refl _) (by first | exact ho1 | exact ho1.alloc _) _ _ 1 1 [.int .i64 L[k]] (by rfl) (by first | exact Rd.one w3 _ _ | exact (rd_one2 w2 _ _ _).drew.apart hg1 (by simp) (by omega) | exact (rd_one3 w2 _ _ _).drew.apart hg1 (by simp) (by omega)) rfl (by simp; rfl) (by simp; omega) (by omega) ?_; intro v2 w4 ho2 hb4 hg2) | (refine step_append_b _ (by rfl) (.tmp 40) (.tmp 43) 22 (by rfl) w2.heap.size _ 3 i0 (.int .i64 0) 8 Try.underlying22 hi hz0 hz1 hz2 rfl _ _ (by rfl) w2 hb4 (Nat.le_refl _) ho2 _ _ (M.length - q) (cc - q) (ints (M.drop q)) (by rfl) (hRC.below hb4) HLD.out (ints_one _) (by simp; omega) (by omega) ?_; intro v3 w5 ho3 hb5 hg3))
          all_goals
            have hvs : ([] ++ ints (M.take q)) ++ [Value.int .i64 L[k]] ++ ints (M.drop q) = ints (insK M L[k]) := by unfold insK; rw [HQ.out]; simp [ints]
            rw [hvs] at ho3
            clear hvs
            have hlen : (insK M L[k]).length = M.length + 1 := by unfold insK; rw [HQ.out]; simp; omega
            have HI := Lib.hid (by rw [List.take_succ_eq_append_getElem hlt, List.foldl_append, ← HM.out]; rfl : insK M L[k] = (L.take (k + 1)).foldl insK [])
            obtain ⟨M', hM'⟩ : ∃ M', M' = insK M L[k] := ⟨_, rfl⟩
            rw [← hM'] at ho3 hlen HI
            clear hM'
            obtain ⟨g3, c3, rfl, hc3⟩ := ho3.formN (by simp; omega)
            have hl0 : (ints M').length = M'.length := by simp
            rw [hl0] at hc3
            have HO3 := Lib.hid ho3
            clear ho3
            have HLEN := Lib.hid hlen
            clear hlen
            rw [hl0]
            rw [hl0] at HO3
            have HL0 := Lib.hid hl0
            clear hl0
            go_wp2
            go_roundw
            case rel => exact ⟨k + 1, by omega, by go_num, (hbel2.trans (hb5.mono hbel2.size)), M', HI, by rw [HLEN.out, HL.out], g3, c3, rfl, hc3, HO3.out.lower hbel2.size⟩
            case measure => simp [intOf]; omega
    · obtain rfl : k = L.length := by omega
      have HT : Hid (M = mrg L) := Lib.hid (by have := HM.out; rw [List.take_of_length_le (Nat.le_refl _)] at this; exact this)
      have HO := Lib.hid hown
      clear hown
      go_wp2_with fail
      go_ret
      refine ⟨some ⟨g, 0, none⟩, cc, by rw [← HT.out]; rfl, ?_, hbel⟩
      rw [← HT.out]
      exact HO.out
end Go.Proofs.Ythafbdpeignccaa
