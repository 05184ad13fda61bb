/-
  Walks: parts out of arms and legs, of the program.
-/
import Derived.Test.YtdoihndifaebcaaW15
namespace Go.Proofs.Ytdoihndifaebcaa
open Go.RowKit NP
set_option linter.unusedVariables false


theorem fmid_cell {A B : List Int} {n : Nat} {t : Bool} {k j : Nat} (hj : j < 16) : (fmid A B n t k)[j]'(by rw [fmid_len]; exact hj) = fro A B n j + (if t = true ∧ j = n then 1 + A.getD n 0 else 0) + (if n + 1 ≤ j ∧ j < n + 1 + k then 1 else 0) := fmid_get A B n t k j _
theorem dn_len {A : List Int} (h : dnB 16 A = true) : A.length ≤ 16 := by
  rcases Nat.eq_zero_or_pos A.length with h0 | h0
  · omega
  · have h1 := dn_low h 0 h0
    have h2 := (dnB_iff 16 A).1 h 0 h0
    omega
theorem dn_bd {A : List Int} (h : dnB 16 A = true) (i : Nat) : 0 ≤ A.getD i 0 ∧ A.getD i 0 ≤ 15 := by
  rcases Nat.lt_or_ge i A.length with h1 | h1
  · have := (dnB_iff 16 A).1 h i h1; omega
  · rw [getD_ge h1]; omega
theorem dn_sum {A : List Int} (h : dnB 16 A = true) (n : Nat) : 0 ≤ sumTo A n ∧ sumTo A n ≤ 15 * n := by
  induction n with
  | zero => exact ⟨Int.le_refl _, Int.le_refl _⟩
  | succ n ih =>
    have := dn_bd h n
    rw [sumTo]
    omega

set_option maxHeartbeats 2000000 in
theorem around_any (a b : Option Addr) (ca cb Ba Bb : Nat) (P Q : List Int) (w : World) (h : Rd w Ba a (ints P)) (hq : Rd w Bb b (ints Q)) (hBa : Ba ≤ w.heap.size) (hBb : Bb ≤ w.heap.size) (hok : pofOk P Q = true) :
    Calls Try.prog 104 #[.slice a P.length ca, .slice b Q.length cb] w fun e w' => e = .returned (.agg (arr (pad (pof P Q)))) ∧ Below w.heap.size w w' := by
  obtain ⟨hvp, hvq, hlen, hsum⟩ := pofOk_out hok
  have HP := Lib.hid hvp
  have HQ := Lib.hid hvq
  have hl16 := dn_len hvp
  have HBP := Lib.hid (dn_bd hvp)
  have HBQ := Lib.hid (dn_bd hvq)
  have HEQ := Lib.hid hlen
  have HV := Lib.hid (valid_pof hok)
  have HE := Lib.hid (fmid_end (pofOk_pre hok))
  have hi16 : (Try.prog.info? 55).map (·.size) = some (arr (pad (pof P Q))).size := by rw [← HE.out, arr_size, fmid_len]; exact T_info35
  have hsz : (arr (pad (pof P Q))).size = (arr (List.replicate 16 0)).size := by rw [← HE.out, arr_size, arr_size, fmid_len]; rfl
  have HFB := Lib.hid (fun (n j : Nat) (hn : n ≤ P.length) => fro_bd (A := P) (B := Q) HP.out (n := n) (j := j) hn (by omega))
  have HZ := Lib.hid (fmid_zero P Q)
  have hbZ0 := (Blk.new w 55 (arr (List.replicate 16 0))).alloc (.cells (arr (List.replicate 16 0)) 55)
  have hbk0 := Blk.new (w.alloc (.cells (arr (List.replicate 16 0)) 55)) 55 (arr (List.replicate 16 0))
  rw [World.size_alloc] at hbk0
  have hbel0 : Below w.heap.size w ((w.alloc (.cells (arr (List.replicate 16 0)) 55)).alloc (.cells (arr (List.replicate 16 0)) 55)) := ((Below.refl _ _).alloc (Nat.le_refl _) _).alloc (by simp) _
  clear hvp hvq hlen hsum hok
  go_enter Try.func104, Try.ntmps104
  go_wp2_with fail
  go_loopw [11] (fun vi wx => ∃ n : Nat, n ≤ P.length ∧ vi = .int .i64 n ∧ Below w.heap.size w wx ∧ Blk wx (w.heap.size + 1) 55 (arr (fmid P Q n false 0)) ∧ Blk wx w.heap.size 55 (arr (List.replicate 16 0))) (fun vi _ => P.length - (intOf vi).toNat)
  case atStart => exact ⟨0, Nat.zero_le _, rfl, hbel0, by rw [HZ.out]; exact hbk0, hbZ0⟩
  case round =>
    obtain ⟨n, hn, rfl, hbel, hbk, hbZ⟩ := hrel
    obtain ⟨wx, rfl⟩ : ∃ wx : World, wx = wr := ⟨_, rfl⟩
    clear hbel0 hbk0 hbZ0
    by_cases hlt : n < P.length
    · have hltq : n < Q.length := by rw [← HEQ.out]; exact hlt
      have hlt' : (n : Int) < (P.length : Int) := by omega
      have hltq' : (n : Int) < (Q.length : Int) := by omega
      have hn16 : n < 16 := by omega
      have hn16' : (n : Int) < 16 := by omega
      obtain ⟨b1, o1, rfl, hbB1, hc1⟩ := ((h.more hBa).below hbel).at_ hlt
      obtain ⟨b2, o2, rfl, hbB2, hc2⟩ := ((hq.more hBb).below hbel).at_ hltq
      have hx := HBP.out n
      have hy := HBQ.out n
      have hgap : (n : Int) + Q.getD n 0 ≤ 15 := by
        have h1 := dn_gap HQ.out n 0 (by omega) hltq
        have h2 := (HBQ.out 0).2
        omega
      have hf0 := HFB.out n n hn
      have HARM := Lib.hid (fmid_arm P Q n)
      have HLEG := Lib.hid (fmid_leg P Q n)
      have HNEXT := Lib.hid (fmid_next P Q n)
      have hcd : wx.cell? ⟨(w.heap.size + 1), n, none⟩ = some (.int .i64 (fro P Q n n)) := by
        rw [hbk.cell n, arr_get _ n (by rw [fmid_len]; exact hn16), fmid_cell hn16, if_neg (by simp), if_neg (by omega)]
        congr 2; omega
      have hfd : wx.frozen? ⟨(w.heap.size + 1), n, none⟩ = false := hbk.free n
      rw [getD_lt hlt] at hx HARM
      rw [getD_lt hltq] at hy hgap
      have HGQ : Hid (Q.getD n 0 = Q[n]) := Lib.hid (getD_lt hltq)
      generalize P[n] = x at *
      generalize Q[n] = y at *
      have hne1 : b1 ≠ (w.heap.size + 1) := by omega
      have hne2 : b2 ≠ (w.heap.size + 1) := by omega
      generalize fro P Q n n = z at *
      have hc2' : (wx.setCell ⟨(w.heap.size + 1), n, none⟩ (.int .i64 (z + (1 + x)))).cell? ⟨b2, o2 + n, none⟩ = some (.int .i64 y) := by
        rw [World.cell?_setCell_other _ _ _ _ (by intro e; injection e with e; omega)]
        exact hc2
      go_wp2_with fail
      have hbk2 := hbk.set n (.int .i64 (z + (1 + x)))
      rw [arr_set, HARM.out] at hbk2
      have hbel2 : Below w.heap.size w (wx.setCell ⟨(w.heap.size + 1), n, none⟩ (.int .i64 (z + (1 + x)))) := hbel.setCell (by show w.heap.size ≤ w.heap.size + 1; omega) _
      have hbZ2 := hbZ.off (p := ⟨w.heap.size + 1, n, none⟩) (by show w.heap.size ≠ w.heap.size + 1; omega) (.int .i64 (z + (1 + x)))
      clear hc1 hc2 hc2' hcd hfd hbel hbk hbZ
      obtain ⟨wy, hwy⟩ : ∃ wy, wy = wx.setCell ⟨(w.heap.size + 1), n, none⟩ (.int .i64 (z + (1 + x))) := ⟨_, rfl⟩
      rw [← hwy] at hbk2 hbel2 hbZ2 ⊢
      clear hwy
      go_loopw [27] (fun vk wz => ∃ k : Nat, (k : Int) ≤ y ∧ vk = .int .i64 k ∧ Below w.heap.size w wz ∧ Blk wz (w.heap.size + 1) 55 (arr (fmid P Q n true k)) ∧ Blk wz w.heap.size 55 (arr (List.replicate 16 0))) (fun vk _ => 20 - (intOf vk).toNat)
      case atStart => exact ⟨0, hy.1, rfl, hbel2, hbk2, hbZ2⟩
      case round =>
        obtain ⟨k, hk, rfl, hbelz, hbz, hbZz⟩ := hrel
        obtain ⟨wz, rfl⟩ : ∃ wz : World, wz = wr := ⟨_, rfl⟩
        clear hbel2 hbk2 hbZ2
        by_cases hltk : (k : Int) < y
        · obtain ⟨q, hq⟩ : ∃ q : Nat, q = n + 1 + k := ⟨_, rfl⟩
          have hq16 : q < 16 := by omega
          have hq16' : (q : Int) < 16 := by omega
          have hcq : wz.cell? ⟨(w.heap.size + 1), q, none⟩ = some (.int .i64 (fro P Q n q)) := by
            rw [hbz.cell q, arr_get _ q (by rw [fmid_len]; exact hq16), fmid_cell hq16, if_neg (by intro e; omega), if_neg (by omega)]
            congr 2; omega
          have hfq : wz.frozen? ⟨(w.heap.size + 1), q, none⟩ = false := hbz.free q
          have hfb := HFB.out n q hn
          have HL := Lib.hid (HLEG.out k)
          rw [← hq] at HL
          have hw1 : IntKind.i64.wrap ((n : Int) + 1 + (k : Int)) = (q : Int) := by rw [IntWalk.i64_in _ (by omega)]; omega
          have hw2 : (n : Int) + 1 + (k : Int) = (q : Int) := by omega
          generalize fro P Q n q = u at *
          clear hq
          go_wp2_with fail
          go_roundw
          case rel =>
            refine ⟨k + 1, by omega, by go_num, hbelz.setCell (by show w.heap.size ≤ w.heap.size + 1; omega) _, ?_, hbZz.off (by show w.heap.size ≠ w.heap.size + 1; omega) _⟩
            have e := hbz.set q (.int .i64 (u + 1))
            rw [arr_set, HL.out] at e
            exact e
          case measure => simp [intOf]; omega
        · have HX := Lib.hid (HNEXT.out k (by rw [HGQ.out]; omega))
          go_wp2_with fail
          go_roundw
          case rel => exact ⟨n + 1, by omega, by go_num, hbelz, by rw [← HX.out]; exact hbz, hbZz⟩
          case measure => simp [intOf]; omega
    · obtain rfl : n = P.length := by omega
      rw [HE.out] at hbk
      go_wp2_with (first
        | (refine wpList_load_row rfl 55 (.tmp 5) rfl (w.heap.size + 1) rfl 55 (arr (pad (pof P Q))) (0, 0) _ hbk Try.underlying55 rfl hi16 ?_)
        | (refine wpList_store_row rfl 55 (.tmp 4) (.tmp 40) rfl w.heap.size rfl (arr (pad (pof P Q))) rfl 55 _ hbZ hi16 hsz (arr_one _) ?_))
      refine bodyPost_ret (results_cell_row rfl _ _ w.heap.size 55 (arr (pad (pof P Q))) (0, 0) _ rfl hbZ.row Try.underlying55 rfl hi16) rfl ?_
      exact ⟨rfl, below_setRow' hbel (Nat.le_refl _) _⟩

end Go.Proofs.Ytdoihndifaebcaa
