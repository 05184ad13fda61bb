/-
  Walks: the model's spread of ranks and cranks.
-/
import Derived.Test.YtcjnmconehfbgaaW104
import Derived.Test.YtcjnmconehfbgaaW44
import Derived.Test.YtcjnmconehfbgaaW45
import Derived.Test.YtcjnmconehfbgaaW40
namespace Go.Proofs.Ytcjnmconehfbgaa
open Go.RowKit NP
set_option maxRecDepth 8000
set_option linter.unusedVariables false
set_option linter.unusedSimpArgs false
def spf (b : Bool) (L : List Int) : Int := if b then crk L else rnk L
theorem Kp.off {w2 w : World} {lo : Nat} (h : Kp w2 w lo) (g : Nat) (hg : g < lo) (i : Nat) (u : Value) : Kp w2 (w.setCell ⟨g, i, none⟩ u) lo :=
  ⟨by simp [World.setCell]; exact h.1, fun k h1 h2 => (Below.heap_setCell w ⟨g, i, none⟩ u k (by show k ≠ g; omega)).trans (h.2 k h1 h2)⟩
theorem allQ_le12 {n : Nat} (hn : n ≤ 12) : (allQ n n n).length ≤ 1000 := allQ_len (by omega)
set_option maxRecDepth 100000 in
set_option maxHeartbeats 4000000 in
theorem sspread_any (n m : Nat) (hn : n ≤ 12) (hm : 1 ≤ m) (hm2 : m ≤ 16) (b : Bool) (w : World) :
    Calls Try.prog 48 #[.int .i64 (n : Int), .int .i64 (m : Int), .bool b] w fun e w' => ∃ a' c', e = .returned (.slice a' m c') ∧ Own w' w.heap.size w'.heap.size 3 (.slice a' m c') (ints (sprd m ((allQ n n n).map (spf b)))) ∧ Below w.heap.size w w' := by
  have hmk := fun w => run_make_ints (P := Try.prog) 22 3 _ Try.underlying22 rfl rfl rfl rfl m (by omega) w
  obtain ⟨w1, hw1⟩ : ∃ w1, w1 = w.alloc (.cells (arr (List.replicate m 0)) 3) := ⟨_, rfl⟩
  have hb1 : Below w.heap.size w w1 := hw1 ▸ (Below.refl _ _).alloc (Nat.le_refl _) _
  have hz1 : w1.heap.size = w.heap.size + 1 := by rw [hw1, World.size_alloc]
  have hB1 : Blk w1 w.heap.size 3 (arr (List.replicate m 0)) := by rw [hw1]; exact Blk.new w _ _
  have HZ2 : Hid ((w1.alloc (.cells #[] 3)).heap.size = w.heap.size + 1 + 1) := Lib.hid (by rw [World.size_alloc, hz1])
  have HW1 := Lib.hid hw1
  obtain ⟨LL, hLL⟩ : ∃ LL, LL = allQ n n n := ⟨_, rfl⟩
  have HOK : Hid (∀ L ∈ LL, valid L = true) := Lib.hid (fun L hL => (allQ_ok hn L (hLL ▸ hL)).1)
  have hle : LL.length ≤ 1000 := hLL ▸ allQ_le12 hn
  have HL := Lib.hid hLL
  clear hLL hw1 hz1
  go_enter Try.func48, Try.ntmps48
  go_wp2_with fail
  rw [← HW1.out]
  refine (slist_lists n (by omega) n _ 0 (w1.alloc (.cells #[] 3)).heap.size [] n _ (Nat.le_refl _) (by simp; omega) (by omega) (fun h => absurd rfl h) (Nat.le_refl _)).mono ?_
  rintro e w2 ⟨a6, c6, vs, rfl, h6, hb2⟩
  rw [show List.map (fun x => [] ++ x) (allQ n n n) = allQ n n n from by simp, ← HL.out] at h6
  rw [← HL.out]
  rw [HZ2.out] at h6 hb2
  have HALL := Lib.hid h6
  clear h6
  have hbw2 : Below w.heap.size w w2 := (hb1.alloc hb1.size _).trans (hb2.mono (by omega))
  have hB2 : Blk w2 w.heap.size 3 (arr (List.replicate m 0)) := (hB1.alloc _).below hb2 (by omega)
  have hsz2 : w.heap.size + 1 + 1 ≤ w2.heap.size := by have := hb2.size; rw [HZ2.out] at this; omega
  clear hb1 hb2 hB1 hmk
  go_wp2_with fail
  go_loopw [9] (fun ii wr => ∃ (i : Nat), ii = .int .i64 (i : Int) ∧ i ≤ LL.length ∧ Blk wr w.heap.size 3 (arr (sprd m ((LL.take i).map (spf b)))) ∧ Kp w2 wr (w.heap.size + 1 + 1) ∧ Below w.heap.size w wr) (fun ii _ => LL.length - (intOf ii).toNat)
  case atStart => exact ⟨0, rfl, Nat.zero_le _, hB2, ⟨Nat.le_refl _, fun _ _ _ => rfl⟩, hbw2⟩
  case round =>
    obtain ⟨i, rfl, hiN, hblk, hkp, hbel⟩ := hrel
    by_cases hlt : i < LL.length
    · have hlt' : (i : Int) < (LL.length : Int) := by omega
      have hv := HOK.out _ (List.getElem_mem hlt)
      have HAL := Lib.hid (HALL.out.keep hkp.1 hkp.2)
      obtain ⟨gA, aM, cM, rfl, hgl, hgh, hcell, hoM, -⟩ := HAL.out.at_ hlt
      have HT := Lib.hid (show ((LL.take (i + 1)).map (spf b)) = (LL.take i).map (spf b) ++ [spf b LL[i]] by rw [List.take_succ_eq_append_getElem hlt, List.map_append]; rfl)
      have hti : ((LL.take i).map (spf b)).length ≤ 1000 := by rw [List.length_map, List.length_take]; omega
      obtain ⟨M, hM⟩ : ∃ M, M = LL[i] := ⟨_, rfl⟩
      rw [← hM] at hv hcell hoM HT
      have HV := Lib.hid hv
      have HR := Lib.hid hoM.rd
      clear hv hM hoM
      have hkz := hkp.1
      obtain ⟨rs, hrs⟩ : ∃ rs, (LL.take i).map (spf b) = rs := ⟨_, rfl⟩
      rw [hrs] at hblk HT hti
      have hlr := sprd_len m rs
      have hbr := sprd_bd m rs
      have hrb := rem_bd (spf b M) m hm
      have HSN := Lib.hid (sprd_snoc m rs (spf b M))
      have htb := tmod_bd (spf b M) m hm
      have htt := tmod_twice (spf b M) m hm
      obtain ⟨r, hr⟩ : ∃ r : Nat, spf b M % (m : Int) = (r : Int) := ⟨(spf b M % (m : Int)).toNat, by omega⟩
      rw [hr] at hrb htt
      rw [hr, Int.toNat_natCast] at HSN
      have hrm : r < m := by omega
      obtain ⟨row, hrow⟩ : ∃ row, sprd m rs = row := ⟨_, rfl⟩
      rw [hrow] at hlr hbr hblk HSN
      unfold bump at HSN
      have hv : row.getD r 0 = row[r] := by simp [List.getD_eq_getElem?_getD, hlr, hrm]
      have hvb := hbr _ (List.getElem_mem (show r < row.length by omega))
      rw [hv] at HSN
      have HC := Lib.hid (arr_get row r (by omega))
      obtain ⟨v, hvv⟩ : ∃ v, row[r] = v := ⟨_, rfl⟩
      rw [hvv] at HSN hvb HC
      have hv0 : 0 ≤ v := hvb.1
      have hv1 : v ≤ 1000 := by omega
      have hwr := wrap_id (v + 1) (by omega) (by omega)
      have hgne : gA ≠ w.heap.size := by omega
      have HBK := Lib.hid hblk
      clear hblk hv hvv hvb hbr hr hrs hrow
      cases b with
      | false =>
        have hsp : spf false M = rnk M := rfl
        rw [hsp] at htb htt HSN HT
        obtain ⟨q, hq⟩ : ∃ q, (rnk M).tmod (m : Int) = q := ⟨_, rfl⟩
        rw [hq] at htb htt
        clear hsp
        go_wp2_with (go_at_call 72; refine (srankOf_any _ _ _ M _ HR.out HV.out).mono ?_; rintro e w3 ⟨rfl, hd3⟩; have hb3 := hd3.below wr.heap.size; have hc3 := ((HBK.out.below hb3 HBK.out.lt).cell r).trans HC.out; have hfz3 := (HBK.out.below hb3 HBK.out.lt).free r)
        go_roundw
        case rel =>
          refine ⟨i + 1, by go_num, by omega, ?_, (hkp.below hb3).off w.heap.size (by omega) _ _, (hbel.trans (hb3.mono hbel.size)).setCell (p := ⟨w.heap.size, r, none⟩) (Nat.le_refl _) _⟩
          rw [HT.out, HSN.out, ← arr_set]
          exact (HBK.out.below hb3 HBK.out.lt).set _ _
        case measure => simp [intOf] <;> omega
      | true =>
        have hsp : spf true M = crk M := rfl
        rw [hsp] at htb htt HSN HT
        obtain ⟨q, hq⟩ : ∃ q, (crk M).tmod (m : Int) = q := ⟨_, rfl⟩
        rw [hq] at htb htt
        clear hsp
        go_wp2_with (first
          | (go_at_call 72; refine (srankOf_any _ _ _ M _ HR.out HV.out).mono ?_; rintro e w3 ⟨rfl, hd3⟩; have hb3 := hd3.below wr.heap.size; have hc3 := ((HBK.out.below hb3 HBK.out.lt).cell r).trans HC.out; have hfz3 := (HBK.out.below hb3 HBK.out.lt).free r; have hcell3 := (hb3.cell (p := ⟨gA, i, none⟩) (World.block_lt_of_cell? _ _ hcell)).trans hcell)
          | (go_at_call 73; refine (scrank_any _ _ _ M _ (HR.out.below (hb3.mono hkz)) HV.out).mono ?_; rintro e w4 ⟨rfl, rfl⟩))
        go_roundw
        case rel =>
          refine ⟨i + 1, by go_num, by omega, ?_, (hkp.below hb3).off w.heap.size (by omega) _ _, (hbel.trans (hb3.mono hbel.size)).setCell (p := ⟨w.heap.size, r, none⟩) (Nat.le_refl _) _⟩
          rw [HT.out, HSN.out, ← arr_set]
          exact (HBK.out.below hb3 HBK.out.lt).set _ _
        case measure => simp [intOf] <;> omega
    · obtain rfl : i = LL.length := by omega
      have HBK := Lib.hid hblk
      clear hblk
      go_wp2_with fail
      go_ret
      rw [List.take_length] at HBK
      refine ⟨_, m, rfl, ?_, hbel⟩
      have hown := HBK.out.own (lo := w.heap.size) (Nat.le_refl _) (by rw [List.length_map, sprd_len]; unfold maxLen; omega)
      rw [List.length_map, sprd_len, HL.out] at hown
      exact hown
end Go.Proofs.Ytcjnmconehfbgaa
