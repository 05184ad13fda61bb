import Derived.Test.YthafbdpeignccaaL1
import Derived.Deep.RegionLaw
import Derived.Deep.DrawnRows
namespace Go.Proofs.Ythafbdpeignccaa
open Go.RowKit NP
set_option maxRecDepth 8000
set_option linter.unusedVariables false
attribute [local go_sem ↓] Go.wp_at_zero Go.wp_at_succ
/-- where x goes -/
def posOf (x : Int) (M : List Int) : Nat := ff (fun (j : Nat) => decide (x ≤ M.getD j 0)) M.length
def insK (M : List Int) (x : Int) : List Int := M.take (posOf x M) ++ x :: M.drop (posOf x M)
def mrg (L : List Int) : List Int := L.foldl insK []
set_option maxRecDepth 100000 in
set_option maxHeartbeats 1000000 in
theorem merge_any (a : Option Addr) (c B : Nat) (L : List Int) (w : World) (h : Rd w B a (ints L)) (hB : B ≤ w.heap.size) (hl : L.length ≤ 1048576) :
    Calls Try.prog 60 #[.slice a L.length c] w fun e w' => ∃ a' c', e = .returned (.slice a' (mrg L).length c') ∧ Own w' w.heap.size w'.heap.size 3 (.slice a' (mrg L).length c') (ints (mrg L)) ∧ Below w.heap.size w w' := by
  obtain ⟨i0, hi, hz0, hz1, hz2⟩ := T_int'
  go_enter Try.func60, Try.ntmps60
  go_wp2
  go_loopw [3, 4] (fun v i wr => ∃ k : Nat, k ≤ L.length ∧ i = .int .i64 k ∧ Below w.heap.size w wr ∧ (∃ M, Hid (M = (L.take k).foldl insK []) ∧ M.length = k ∧ ∃ g cc, v = .slice (some ⟨g, 0, none⟩) M.length cc ∧ M.length ≤ cc ∧ Own wr w.heap.size wr.heap.size 3 (.slice (some ⟨g, 0, none⟩) M.length cc) (ints M))) (fun _ i _ => L.length - (intOf i).toNat)
  case atStart => exact ⟨0, Nat.zero_le _, rfl, (Below.refl _ _).alloc (Nat.le_refl _) _, [], Lib.hid rfl, rfl, w.heap.size, 0, rfl, Nat.le_refl _, (Own.empty w 3).more⟩
  case round =>
    obtain ⟨k, hk, rfl, hbel, M, HM, hMl, g, cc, rfl, hcc, hown⟩ := hrel
    by_cases hlt : k < L.length
    · obtain ⟨b, o, rfl, hbB, hc0⟩ := ((h.more hB).below hbel).at_ hlt
      obtain ⟨wo, rfl⟩ : ∃ wo : World, wo = wr := ⟨_, rfl⟩
      have hMb : M.length ≤ 1048576 := by omega
      have HL := Lib.hid hMl
      clear hMl
      have HO := Lib.hid hown
      clear hown
      go_wp2
      go_loopw [5] (fun j wr => ∃ q : Nat, q ≤ M.length ∧ j = .int .i64 q ∧ Dr wo wr ∧ Hid (∀ r, r < q → (fun (r : Nat) => decide (L[k] ≤ M.getD r 0)) r = true)) (fun j _ => M.length - (intOf j).toNat)
      case atStart => exact ⟨0, Nat.zero_le _, rfl, Dr.refl _, Lib.hid fun r hr => by omega⟩
      case round =>
        obtain ⟨q, hq, rfl, hdr, HP⟩ := hrel
        have hown := HO.out.dr hdr
        have hcr : wr.cell? ⟨b, o + k, none⟩ = some (.int .i64 L[k]) := by
          have := (hdr.below (w.heap.size)).cell (p := ⟨b, o + k, none⟩) (by exact hbB)
          rw [this]; exact hc0
        have hqc : (q : Int) ≤ (cc : Int) := by omega
        have hq0 : (0 : Int) ≤ (q : Int) := by omega
        have hqM' : (q : Int) ≤ (M.length : Int) := by omega
        by_cases hqM : q < M.length
        · obtain ⟨g', cc', e, hlo, hhi, hcM, -⟩ := hown.at_ (k := q) (by simpa using hqM)
          have hcM' : wr.cell? ⟨g, q, none⟩ = some (.int .i64 M[q]) := by
            injection e with e; injection e with e; injection e with e; subst e
            simpa using hcM
          clear hcM e
          by_cases hx : L[k] ≤ M[q]
          · go_wp2_with fail
            go_quiet (fail)
            go_wp2
            go_roundw
            case rel => exact ⟨q + 1, by omega, by go_num, hdr.drewN _, Lib.hid fun r hr => by
              rcases Nat.lt_or_ge r q with h | h
              · exact HP.out r h
              · obtain rfl : r = q := by omega
                simp [List.getD, hqM]; omega⟩
            case measure => simp [intOf]; omega
          · have hx' : M[q] < L[k] := by omega
            have HQ : Hid (posOf L[k] M = q) := Lib.hid (ff_eq HP.out hq (.inr (by simp [List.getD, hqM]; omega)))
            clear hx
            go_wp2_with fail
            go_quiet (fail)
            go_wp2_with fail
            obtain ⟨w2, hw2⟩ : ∃ w2, w2 = wr.drewN nq := ⟨_, rfl⟩
            rw [← hw2]
            have hd2 : Dr wo w2 := by rw [hw2]; exact hdr.drewN nq
            clear hw2 hcr hown hdr
            have hown := HO.out.dr hd2
            have hbel2 := hbel.trans (hd2.below _)
            have hcx : w2.cell? ⟨b, o + k, none⟩ = some (.int .i64 L[k]) := by
              rw [(hd2.below (w.heap.size)).cell (p := ⟨b, o + k, none⟩) (by exact hbB)]; exact hc0
            have hRT : Rd w2 w2.heap.size (some ⟨g, 0, none⟩) (ints (M.take q)) := by have := (hown.rd.more hown.le).take q; simpa [ints, List.map_take] using this
            have hRC : Rd w2 w2.heap.size (if cc = q then some ⟨g, 0, none⟩ else some ⟨g, q, none⟩) (ints (M.drop q)) := by have := (hown.rd.more hown.le).cutAt (cap := cc) q (by simpa using hcc); simpa [ints, List.map_drop] using this
            have hln := hown.le
            have hb2 : b < w2.heap.size := by have := hbel2.size; omega
            have HLT := Lib.hid (len_take hq)
            have HLD := Lib.hid (len_drop (M := M) (q := q))
            have hMl : M.length ≤ 1048576 := by have := HL.out; omega
            clear hown
            go_region_law (first | (refine step_append_b _ (by rfl) (.tmp 30) (.tmp 33) 22 (by rfl) w2.heap.size _ 3 i0 (.int .i64 0) 8 Try.underlying22 hi hz0 hz1 hz2 rfl _ [] (by rfl) w2 (by go_grown) (Nat.le_refl _) (by first | exact (own_empty1 w2 _ (Nat.le_refl _)).drew | exact ((own_empty1 w2 _ (Nat.le_refl _)).alloc _).drew | exact (own_empty2 w2 _ _ (Nat.le_refl _)).drew) w2.heap.size (some ⟨g, 0, none⟩) q cc (ints (M.take q)) (by rfl) (hRT.below (by go_grown)) HLT.out (ints_one _) (by simp only [List.length_nil]; omega) (by omega) ?_; intro v1 w3 ho1 hb3 hg1; have hcx3 : w3.cell? ⟨b, o + k, none⟩ = some (.int .i64 L[k]) := (hb3.cell (p := ⟨b, o + k, none⟩) hb2).trans hcx) | (refine step_append_b _ (by rfl) (.tmp 34) (.tmp 39) 22 (by rfl) w2.heap.size _ 3 i0 (.int .i64 0) 8 Try.underlying22 hi hz0 hz1 hz2 rfl _ _ (by rfl) w2 (by first | exact hb3 | exact hb3.alloc hb3.size _) (Nat.le_refl _) (by first | exact ho1 | exact ho1.alloc _) _ _ 1 1 [.int .i64 L[k]] (by rfl) (by first | exact Rd.one w3 _ _ | exact (rd_one2 w2 _ _ _).drew.apart hg1 (by simp) (by omega) | exact (rd_one3 w2 _ _ _).drew.apart hg1 (by simp) (by omega)) rfl (by simp; rfl) (by simp; omega) (by omega) ?_; intro v2 w4 ho2 hb4 hg2) | (refine step_append_b _ (by rfl) (.tmp 40) (.tmp 43) 22 (by rfl) w2.heap.size _ 3 i0 (.int .i64 0) 8 Try.underlying22 hi hz0 hz1 hz2 rfl _ _ (by rfl) w2 hb4 (Nat.le_refl _) ho2 _ _ (M.length - q) (cc - q) (ints (M.drop q)) (by rfl) (hRC.below hb4) HLD.out (ints_one _) (by simp; omega) (by omega) ?_; intro v3 w5 ho3 hb5 hg3))
            all_goals
              have hvs : ([] ++ ints (M.take q)) ++ [Value.int .i64 L[k]] ++ ints (M.drop q) = ints (insK M L[k]) := by unfold insK; rw [HQ.out]; simp [ints]
              rw [hvs] at ho3
              clear hvs
              have hlen : (insK M L[k]).length = M.length + 1 := by unfold insK; rw [HQ.out]; simp; omega
              have HI := Lib.hid (by rw [List.take_succ_eq_append_getElem hlt, List.foldl_append, ← HM.out]; rfl : insK M L[k] = (L.take (k + 1)).foldl insK [])
              obtain ⟨M', hM'⟩ : ∃ M', M' = insK M L[k] := ⟨_, rfl⟩
              rw [← hM'] at ho3 hlen HI
              clear hM'
              obtain ⟨g3, c3, rfl, hc3⟩ := ho3.formN (by simp; omega)
              have hl0 : (ints M').length = M'.length := by simp
              rw [hl0] at hc3
              have HO3 := Lib.hid ho3
              clear ho3
              have HLEN := Lib.hid hlen
              clear hlen
              rw [hl0]
              rw [hl0] at HO3
              have HL0 := Lib.hid hl0
              clear hl0
              go_wp2
              go_roundw
              case rel => exact ⟨k + 1, by omega, by go_num, (hbel2.trans (hb5.mono hbel2.size)), M', HI, by rw [HLEN.out, HL.out], g3, c3, rfl, hc3, HO3.out.lower hbel2.size⟩
              case measure => simp [intOf]; omega
        · have hov : decide (q < M.length) = false := decide_eq_false hqM
          have HQ : Hid (posOf L[k] M = q) := Lib.hid (ff_eq HP.out hq (.inl (by omega)))
          go_wp2_with fail
          go_quiet (fail)
          go_wp2_with fail
          obtain ⟨w2, hw2⟩ : ∃ w2, w2 = wr.drewN nq := ⟨_, rfl⟩
          rw [← hw2]
          have hd2 : Dr wo w2 := by rw [hw2]; exact hdr.drewN nq
          clear hw2 hcr hown hdr
          have hown := HO.out.dr hd2
          have hbel2 := hbel.trans (hd2.below _)
          have hcx : w2.cell? ⟨b, o + k, none⟩ = some (.int .i64 L[k]) := by
            rw [(hd2.below (w.heap.size)).cell (p := ⟨b, o + k, none⟩) (by exact hbB)]; exact hc0
          have hRT : Rd w2 w2.heap.size (some ⟨g, 0, none⟩) (ints (M.take q)) := by have := (hown.rd.more hown.le).take q; simpa [ints, List.map_take] using this
          have hRC : Rd w2 w2.heap.size (if cc = q then some ⟨g, 0, none⟩ else some ⟨g, q, none⟩) (ints (M.drop q)) := by have := (hown.rd.more hown.le).cutAt (cap := cc) q (by simpa using hcc); simpa [ints, List.map_drop] using this
          have hln := hown.le
          have hb2 : b < w2.heap.size := by have := hbel2.size; omega
          have HLT := Lib.hid (len_take hq)
          have HLD := Lib.hid (len_drop (M := M) (q := q))
          have hMl : M.length ≤ 1048576 := by have := HL.out; omega
          clear hown
          go_region_law (first | (refine step_append_b _ (by rfl) (.tmp 30) (.tmp 33) 22 (by rfl) w2.heap.size _ 3 i0 (.int .i64 0) 8 Try.underlying22 hi hz0 hz1 hz2 rfl _ [] (by rfl) w2 (by go_grown) (Nat.le_refl _) (by first | exact (own_empty1 w2 _ (Nat.le_refl _)).drew | exact ((own_empty1 w2 _ (Nat.le_refl _)).alloc _).drew | exact (own_empty2 w2 _ _ (Nat.le_refl _)).drew) w2.heap.size (some ⟨g, 0, none⟩) q cc (ints (M.take q)) (by rfl) (hRT.below (by go_grown)) HLT.out (ints_one _) (by simp only [List.length_nil]; omega) (by omega) ?_; intro v1 w3 ho1 hb3 hg1; have hcx3 : w3.cell? ⟨b, o + k, none⟩ = some (.int .i64 L[k]) := (hb3.cell (p := ⟨b, o + k, none⟩) hb2).trans hcx) | (refine step_append_b _ (by rfl) (.tmp 34) (.tmp 39) 22 (by rfl) w2.heap.size _ 3 i0 (.int .i64 0) 8 Try.underlying22 hi hz0 hz1 hz2 rfl _ _ (by rfl) w2 (by first | exact hb3 | exact hb3.alloc hb3.size _) (Nat.le_refl _) (by first | exact ho1 | exact ho1.alloc _) _ _ 1 1 [.int .i64 L[k]] (by rfl) (by first | exact Rd.one w3 _ _ | exact (rd_one2 w2 _ _ _).drew.apart hg1 (by simp) (by omega) | exact (rd_one3 w2 _ _ _).drew.apart hg1 (by simp) (by omega)) rfl (by simp; rfl) (by simp; omega) (by omega) ?_; intro v2 w4 ho2 hb4 hg2) | (refine step_append_b _ (by rfl) (.tmp 40) (.tmp 43) 22 (by rfl) w2.heap.size _ 3 i0 (.int .i64 0) 8 Try.underlying22 hi hz0 hz1 hz2 rfl _ _ (by rfl) w2 hb4 (Nat.le_refl _) ho2 _ _ (M.length - q) (cc - q) (ints (M.drop q)) (by rfl) (hRC.below hb4) HLD.out (ints_one _) (by simp; omega) (by omega) ?_; intro v3 w5 ho3 hb5 hg3))
          all_goals
            have hvs : ([] ++ ints (M.take q)) ++ [Value.int .i64 L[k]] ++ ints (M.drop q) = ints (insK M L[k]) := by unfold insK; rw [HQ.out]; simp [ints]
            rw [hvs] at ho3
            clear hvs
            have hlen : (insK M L[k]).length = M.length + 1 := by unfold insK; rw [HQ.out]; simp; omega
            have HI := Lib.hid (by rw [List.take_succ_eq_append_getElem hlt, List.foldl_append, ← HM.out]; rfl : insK M L[k] = (L.take (k + 1)).foldl insK [])
            obtain ⟨M', hM'⟩ : ∃ M', M' = insK M L[k] := ⟨_, rfl⟩
            rw [← hM'] at ho3 hlen HI
            clear hM'
            obtain ⟨g3, c3, rfl, hc3⟩ := ho3.formN (by simp; omega)
            have hl0 : (ints M').length = M'.length := by simp
            rw [hl0] at hc3
            have HO3 := Lib.hid ho3
            clear ho3
            have HLEN := Lib.hid hlen
            clear hlen
            rw [hl0]
            rw [hl0] at HO3
            have HL0 := Lib.hid hl0
            clear hl0
            go_wp2
            go_roundw
            case rel => exact ⟨k + 1, by omega, by go_num, (hbel2.trans (hb5.mono hbel2.size)), M', HI, by rw [HLEN.out, HL.out], g3, c3, rfl, hc3, HO3.out.lower hbel2.size⟩
            case measure => simp [intOf]; omega
    · obtain rfl : k = L.length := by omega
      have HT : Hid (M = mrg L) := Lib.hid (by have := HM.out; rw [List.take_of_length_le (Nat.le_refl _)] at this; exact this)
      have HO := Lib.hid hown
      clear hown
      go_wp2_with fail
      go_ret
      refine ⟨some ⟨g, 0, none⟩, cc, by rw [← HT.out]; rfl, ?_, hbel⟩
      rw [← HT.out]
      exact HO.out
end Go.Proofs.Ythafbdpeignccaa
