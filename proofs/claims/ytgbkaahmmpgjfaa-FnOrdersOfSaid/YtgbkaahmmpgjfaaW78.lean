/-
  Walks: orders of the program and of the model.
-/
import Derived.Test.YtgbkaahmmpgjfaaW76
import Derived.Test.YtgbkaahmmpgjfaaW5
import Derived.Test.YtgbkaahmmpgjfaaM36
namespace Go.Proofs.Ytgbkaahmmpgjfaa
open Go.RowKit NP
set_option linter.unusedVariables false
theorem dtally_any (P : List Int) (hv : valid P = true) (w : World) :
    Calls Try.prog 64 #[.agg (arr (pad P))] w fun e w' => e = .returned (.agg (arr (tlyL P))) ∧ Below w.heap.size w w' := by
  have hlen := (valid_bd hv).2.2.2
  have hi16 : (Try.prog.info? 41).map (·.size) = some (arr (pad P)).size := by rw [arr_size, pad_len hlen]; exact T_info35
  have hi17 : (Try.prog.info? 60).map (·.size) = some (arr (tlyL P)).size := by rw [arr_size, tlyL_len]; exact T_tal
  have hsz : (arr (tlyL P)).size = (arr (List.replicate 17 0)).size := by rw [arr_size, arr_size, tlyL_len]; rfl
  have HV := Lib.hid hv
  have HS := Lib.hid (vsm_of_valid hv)
  clear hv
  have hb := (Blk.new w 41 (arr (pad P))).alloc (.cells (arr (List.replicate 17 0)) 60)
  have ht := Blk.new (w.alloc (.cells (arr (pad P)) 41)) 60 (arr (List.replicate 17 0))
  rw [World.size_alloc] at ht
  have hA := ((Below.refl w.heap.size w).alloc (Nat.le_refl _) (.cells (arr (pad P)) 41)).alloc (by simp) (.cells (arr (List.replicate 17 0)) 60)
  go_enter Try.func64, Try.ntmps64
  go_wp2_with (first
    | (refine wpList_load_row rfl 41 (.tmp 1) rfl w.heap.size rfl 41 (arr (pad P)) (0, 0) _ hb Try.underlying41 rfl hi16 ?_)
    | (go_at_call 51; refine (list_any P HV.out _).mono ?_; rintro e w1 ⟨a', rfl, ho, hb1⟩; rw [World.size_alloc, World.size_alloc] at hb1; have hz1 := hb1.size; rw [World.size_alloc, World.size_alloc] at hz1; have hA1 := hA.trans (hb1.mono (by omega)); have ht1 := ht.below hb1 (by omega))
    | (go_at_call 59; refine (tallyOf_any _ _ _ P _ ho.rd ho.le HS.out).mono ?_; rintro e w2 ⟨rfl, hb2⟩; have ht2 := ht1.below hb2 (by omega); have hA2 := hA1.trans (hb2.mono (by omega)))
    | (refine wpList_store_row rfl 60 (.tmp 2) (.tmp 5) rfl (w.heap.size + 1) rfl (arr (tlyL P)) rfl 60 _ ht2 hi17 hsz (arr_one _) ?_))
  refine bodyPost_ret (results_cell_row rfl _ _ (w.heap.size + 1) 60 (arr (tlyL P)) (0, 0) _ rfl ht2.row Try.underlying60 rfl hi17) rfl ?_
  exact ⟨rfl, below_setRow' hA2 (by omega) _⟩
theorem tim_len16 {P : List Int} (h : valid P = true) : (tim P).length ≤ 16 := by
  have := headD_bd h
  unfold tim
  rw [List.length_map, List.length_range]
  omega
theorem TL_index (D : List Int) (k : Nat) (hk : k < D.length) (h17 : k < 17) (w : World) : (Instr.index 60 (.agg (arr D)) (.int .i64 k)).run Try.prog w = .ok (.int .i64 D[k]) w :=
  run_index_row 60 3 _ 17 Try.underlying60 Try.underlying3 rfl (by kernel_rfl) (arr D) k _ h17 (arr_get D k hk) .i64 w
set_option maxHeartbeats 1000000 in
theorem torders_any (P : List Int) (hv : valid P = true) (w : World) :
    Calls Try.prog 65 #[.agg (arr (tlyL P))] w fun e w' => e = .returned (.int .i64 (ordP P : Int)) ∧ Below w.heap.size w w' := by
  obtain ⟨-, hsum, -, -, hc16, -⟩ := ord_facts hv
  have hi17 : (Try.prog.info? 60).map (·.size) = some (arr (tlyL P)).size := by rw [arr_size, tlyL_len]; exact T_tal
  have hb := Blk.new w 60 (arr (tlyL P))
  have hcl : (tcs P).length = 17 := by simp [tcs]
  have hcg : ∀ (k : Nat) (hk : k < 17), eqc (k : Int) P = ((tcs P)[k]'(by rw [hcl]; exact hk) : Int) := fun k hk => by
    simp [tcs]
    have := (eqc_bd (k : Int) P).1
    omega
  obtain ⟨cs, hcs⟩ : ∃ cs, cs = tcs P := ⟨_, rfl⟩
  have HORD : Hid (ordP P = (ordS cs (0, 1)).2) := Lib.hid (by rw [hcs]; rfl)
  have HC := Lib.hid hcg
  have HS : Hid (∀ (k : Nat) (hk : k < cs.length) (j : Nat), j ≤ cs[k] → (inn j (ordS (cs.take k) (0, 1))).1 ≤ 16 ∧ (inn j (ordS (cs.take k) (0, 1))).2 ≤ 20922789888000) := Lib.hid (fun k hk j hj => ord_state (by rw [hcs]; exact hsum) hk hj)
  have HX : Hid (∀ (k : Nat) (hk : k < cs.length), ordS (cs.take (k + 1)) (0, 1) = inn cs[k] (ordS (cs.take k) (0, 1))) := Lib.hid (fun k hk => ord_next hk)
  have HG : Hid (∀ (k : Nat) (hk : k < 17), ∃ h : k < cs.length, eqc (k : Int) P = (cs[k] : Int) ∧ cs[k] ≤ 16) := Lib.hid (fun k hk => by
    subst hcs
    exact ⟨by rw [hcl]; exact hk, hcg k hk, hc16 _ (List.getElem_mem _)⟩)
  have HL : Hid (cs.length = 17) := Lib.hid (by rw [hcs]; exact hcl)
  clear hsum hc16 hcl hcg HC hcs hv
  go_enter Try.func65, Try.ntmps65
  go_wp2_with (refine wpList_load_row rfl 60 (.tmp 1) rfl w.heap.size rfl 60 (arr (tlyL P)) (0, 0) _ hb Try.underlying60 rfl hi17 ?_)
  go_loop [3, 4, 6, 7, 9, 12, 13] (fun o n _ _ i _ _ => ∃ k : Nat, k ≤ 17 ∧ i = .int .i64 k ∧ ∃ nn oo : Nat, Hid ((nn, oo) = ordS (cs.take k) (0, 1)) ∧ n = .int .i64 nn ∧ o = .int .i64 oo) (fun _ _ _ _ i _ _ => 17 - (intOf i).toNat)
  case atStart => exact ⟨0, Nat.zero_le _, rfl, 0, 1, Lib.hid rfl, rfl, rfl⟩
  case round =>
    obtain ⟨k, hk, rfl, nn, oo, HST, rfl, rfl⟩ := hrel
    by_cases hlt : k < 17
    · obtain ⟨hkc, hck, hck16⟩ := HG.out k hlt
      have hkD : k < (tlyL P).length := by rw [tlyL_len]; exact hlt
      have hc := TL_index (tlyL P) k hkD hlt
      rw [tlyL_at P hlt, hck] at hc
      have HSS := Lib.hid (fun (j : Nat) (hj : j ≤ cs[k]) => HS.out k hkc j hj)
      have HXX := Lib.hid (HX.out k hkc)
      obtain ⟨c, hcc⟩ : ∃ c, c = cs[k] := ⟨_, rfl⟩
      rw [← hcc] at hc hck16 HXX
      simp only [← hcc] at HSS
      clear hck hkD hcc
      have hlt' : (k : Int) < 17 := by omega
      go_wp2
      go_loop [3, 4, 7, 13] (fun o n _ j => ∃ y : Nat, y ≤ c ∧ j = .int .i64 y ∧ ∃ nn oo : Nat, Hid ((nn, oo) = inn y (ordS (cs.take k) (0, 1))) ∧ n = .int .i64 nn ∧ o = .int .i64 oo) (fun _ _ _ j => c - (intOf j).toNat)
      case atStart => exact ⟨0, Nat.zero_le _, rfl, nn, oo, HST, rfl, rfl⟩
      case round =>
        obtain ⟨y, hy, rfl, n1, o1, HS1, rfl, rfl⟩ := hrel
        have hb1 := HSS.out y hy
        rw [← HS1.out] at hb1
        obtain ⟨hb1, hb2⟩ := hb1
        by_cases hyc : y < c
        · have hpm : o1 * (n1 + 1) ≤ 20922789888000 * 17 := Nat.mul_le_mul hb2 (by omega)
          obtain ⟨pr, hpr⟩ : ∃ pr, pr = o1 * (n1 + 1) := ⟨_, rfl⟩
          have e1 : wrap64 ((o1 : Int) * ((n1 : Int) + 1)) = (pr : Int) := by
            have : ((o1 : Int) * ((n1 : Int) + 1)) = ((o1 * (n1 + 1) : Nat) : Int) := by simp
            rw [this, ← hpr]
            exact IntWalk.wrap64_in _ (by omega)
          have e2 : IntKind.i64.wrap ((o1 : Int) * ((n1 : Int) + 1)) = (pr : Int) := by rw [IntWalk.i64_left, e1]
          have HN : Hid ((n1 + 1, pr / (y + 1)) = inn (y + 1) (ordS (cs.take k) (0, 1))) := Lib.hid (by
            rw [show inn (y + 1) (ordS (cs.take k) (0, 1)) = ((inn y (ordS (cs.take k) (0, 1))).1 + 1, (inn y (ordS (cs.take k) (0, 1))).2 * ((inn y (ordS (cs.take k) (0, 1))).1 + 1) / (y + 1)) from rfl, ← HS1.out, hpr])
          obtain ⟨qv, hqv⟩ : ∃ qv, qv = pr / (y + 1) := ⟨_, rfl⟩
          have e3 : ((pr : Int) / ((y : Int) + 1)) = (qv : Int) := by rw [hqv]; simp
          rw [← hqv] at HN
          have hqb : qv ≤ 20922789888000 * 17 := by rw [hqv]; exact Nat.le_trans (Nat.div_le_self _ _) (by rw [hpr]; exact hpm)
          have hy0 : ¬ ((y : Int) + 1 = 0) := by omega
          have hpb : pr ≤ 20922789888000 * 17 := by rw [hpr]; exact hpm
          have hyl : (y : Int) < (c : Int) := by omega
          clear hpm hpr hqv
          go_wp2_with fail
          go_round
          case rel => exact ⟨y + 1, by omega, by go_num, n1 + 1, qv, HN, by go_num, by first | rfl | go_num⟩
          case measure => simp [intOf] <;> omega
        · obtain rfl : y = c := by omega
          rw [← HXX.out] at HS1
          go_wp2
          go_round
          case rel => exact ⟨k + 1, by omega, by go_num, n1, o1, HS1, rfl, rfl⟩
          case measure => simp [intOf] <;> omega
    · obtain rfl : k = 17 := by omega
      have HE : Hid (oo = ordP P) := Lib.hid (by rw [HORD.out]; have := HST.out; rw [List.take_of_length_le (by rw [HL.out]; omega)] at this; rw [← this])
      go_wp2
      go_ret
      exact ⟨ret_i64 (by rw [HE.out]), (Below.refl _ _).alloc (Nat.le_refl _) _⟩
theorem iOrdersOf_any (a : Option Addr) (c B : Nat) (L : List Int) (w : World) (h : Rd w B a (ints L)) (hB : B ≤ w.heap.size) (hl : L.length ≤ 4611686018427387904) :
    Calls Try.prog 35 #[.slice a L.length c] w fun e w' => e = .returned (.int .i64 (ordF L)) ∧ Below w.heap.size w w' := by
  cases hv : valid L with
  | true =>
    have hpl := pad_len (valid_bd hv).2.2.2
    have hi16 : (Try.prog.info? 41).map (·.size) = some (arr (pad L)).size := by rw [arr_size, hpl]; exact T_info35
    have hsz : (arr (pad L)).size = (arr (List.replicate 16 0)).size := by rw [arr_size, arr_size, hpl]; rfl
    have HD := Lib.hid (dg_yes hv)
    have HF := Lib.hid (ordF_yes hv)
    have HV := Lib.hid hv
    clear hpl hv
    go_enter Try.func35, Try.ntmps35
    go_wp2_with (first
      | (refine wpList_load_row rfl 41 (.tmp 3) rfl w1.heap.size rfl 41 (arr (pad L)) (0, 0) _ hb2 Try.underlying41 rfl hi16 ?_)
      | (refine wpList_store_row rfl 41 (.tmp 3) (.tmp 8) rfl w1.heap.size rfl (arr (pad L)) rfl 41 (arr (List.replicate 16 0)) (Blk.new w1 _ _) hi16 hsz (arr_one _) ?_; have hb2 := (Blk.new w1 41 (arr (List.replicate 16 0))).row (vs := arr (pad L)); have hbel2 : Below w.heap.size w ((w1.alloc (.cells (arr (List.replicate 16 0)) 41)).setRow w1.heap.size (arr (pad L))) := below_setRow' (hb1.alloc hb1.size _) (by exact hb1.size) _; obtain ⟨w2, hw2⟩ : ∃ w2, w2 = (w1.alloc (.cells (#[.int .i64 0, .int .i64 0, .int .i64 0, .int .i64 0, .int .i64 0, .int .i64 0, .int .i64 0, .int .i64 0, .int .i64 0, .int .i64 0, .int .i64 0, .int .i64 0, .int .i64 0, .int .i64 0, .int .i64 0, .int .i64 0]) 41)).setRow w1.heap.size (arr (pad L)) := ⟨_, rfl⟩; rw [← hw2]; replace hb2 : Blk w2 w1.heap.size 41 (arr (pad L)) := hw2 ▸ hb2; replace hbel2 : Below w.heap.size w w2 := hw2 ▸ hbel2; clear hw2)
      | (go_at_call 49; refine (diagramOf_any _ _ B L _ h hB hl).mono ?_; rintro e w1 ⟨rfl, hb1⟩; rw [HD.out, HV.out])
      | (go_at_call 64; refine (dtally_any L HV.out _).mono ?_; rintro e w3 ⟨rfl, hb3⟩)
      | (go_at_call 65; refine (torders_any L HV.out _).mono ?_; rintro e w4 ⟨rfl, hb4⟩))
    go_ret
    have h3 := hbel2.trans (hb3.mono hbel2.size)
    exact ⟨ret_i64 HF.out.symm, h3.trans (hb4.mono h3.size)⟩
  | false =>
    have hi16 : (Try.prog.info? 41).map (·.size) = some (arr (dg L)).size := by rw [arr_size, dg_len]; exact T_info35
    have hsz : (arr (dg L)).size = (arr (List.replicate 16 0)).size := by rw [arr_size, arr_size, dg_len]; rfl
    have HF := Lib.hid (ordF_no hv)
    have HV := Lib.hid hv
    clear hv
    go_enter Try.func35, Try.ntmps35
    go_wp2_with (first
      | (refine wpList_store_row rfl 41 (.tmp 3) (.tmp 8) rfl w1.heap.size rfl (arr (dg L)) rfl 41 (arr (List.replicate 16 0)) (Blk.new w1 _ _) hi16 hsz (arr_one _) ?_)
      | (go_at_call 49; refine (diagramOf_any _ _ B L _ h hB hl).mono ?_; rintro e w1 ⟨rfl, hb1⟩; rw [HV.out]))
    go_ret
    exact ⟨ret_i64 HF.out.symm, below_setRow' (hb1.alloc hb1.size _) (by exact hb1.size) _⟩
set_option maxHeartbeats 1000000 in
theorem ways_any (a : Option Addr) (c B : Nat) (P : List Int) (w : World) (h : Rd w B a (ints P)) (hB : B ≤ w.heap.size) (hv : valid P = true) :
    Calls Try.prog 63 #[.slice a P.length c] w fun e w' => e = .returned (.int .i64 (ordP P : Int)) ∧ Below w.heap.size w w' := by
  obtain ⟨heq, -, hsum, hc16, -, -⟩ := ord_facts hv
  have HV := Lib.hid hv
  have hml : (mcs P).length = (tim P).length := by simp [mcs]
  have htg : ∀ (k : Nat) (hk : k < (tim P).length), 0 ≤ (tim P)[k] := fun k hk => by rw [tim_get]; exact (eqc_bd _ P).1
  obtain ⟨cs, hcs⟩ : ∃ cs, cs = mcs P := ⟨_, rfl⟩
  have HORD : Hid (ordP P = (ordS cs (0, 1)).2) := Lib.hid (by rw [← heq, hcs]; rfl)
  have HS : Hid (∀ (k : Nat) (hk : k < cs.length) (j : Nat), j ≤ cs[k] → (inn j (ordS (cs.take k) (0, 1))).1 ≤ 16 ∧ (inn j (ordS (cs.take k) (0, 1))).2 ≤ 20922789888000) := Lib.hid (fun k hk j hj => ord_state (by rw [hcs]; exact hsum) hk hj)
  have HX : Hid (∀ (k : Nat) (hk : k < cs.length), ordS (cs.take (k + 1)) (0, 1) = inn cs[k] (ordS (cs.take k) (0, 1))) := Lib.hid (fun k hk => ord_next hk)
  have HG : Hid (∀ (k : Nat) (hk : k < (tim P).length), ∃ h : k < cs.length, (tim P)[k] = (cs[k] : Int) ∧ cs[k] ≤ 16) := Lib.hid (fun k hk => by
    subst hcs
    refine ⟨by rw [hml]; exact hk, ?_, hc16 _ (List.getElem_mem _)⟩
    have := htg k hk
    simp [mcs]; omega)
  have HL : Hid (cs.length = (tim P).length) := Lib.hid (by rw [hcs]; exact hml)
  have htl : (tim P).length ≤ 16 := tim_len16 hv
  clear hsum hc16 hml htg hcs hv heq
  go_enter Try.func63, Try.ntmps63
  go_wp2_with (go_at_call 80; refine (stimes_any _ _ B P _ h hB HV.out).mono ?_; rintro e w1 ⟨a1, c1, rfl, ho, hb1⟩)
  generalize tim P = T at *
  go_loop [3, 5, 6, 7] (fun o n i _ => ∃ k : Nat, k ≤ T.length ∧ i = .int .i64 k ∧ ∃ nn oo : Nat, Hid ((nn, oo) = ordS (cs.take k) (0, 1)) ∧ n = .int .i64 nn ∧ o = .int .i64 oo) (fun _ _ i _ => T.length - (intOf i).toNat)
  case atStart => exact ⟨0, Nat.zero_le _, rfl, 0, 1, Lib.hid rfl, rfl, rfl⟩
  case round =>
    obtain ⟨k, hk, rfl, nn, oo, HST, rfl, rfl⟩ := hrel
    by_cases hlt : k < T.length
    · obtain ⟨hkc, hck, hck16⟩ := HG.out k hlt
      obtain ⟨b2, o2, rfl, -, hc⟩ := (ho.rd).at_ hlt
      rw [hck] at hc
      have HSS := Lib.hid (fun (j : Nat) (hj : j ≤ cs[k]) => HS.out k hkc j hj)
      have HXX := Lib.hid (HX.out k hkc)
      obtain ⟨c, hcc⟩ : ∃ c, c = cs[k] := ⟨_, rfl⟩
      rw [← hcc] at hc hck16 HXX
      simp only [← hcc] at HSS
      clear hck hcc
      have HO := Lib.hid ho
      clear ho
      go_wp2
      go_loop [3, 5, 7] (fun o n j => ∃ y : Nat, y ≤ c ∧ j = .int .i64 ((y : Int) + 1) ∧ ∃ nn oo : Nat, Hid ((nn, oo) = inn y (ordS (cs.take k) (0, 1))) ∧ n = .int .i64 nn ∧ o = .int .i64 oo) (fun _ _ j => (c + 1) - (intOf j).toNat)
      case atStart => exact ⟨0, Nat.zero_le _, rfl, nn, oo, HST, rfl, rfl⟩
      case round =>
        obtain ⟨y, hy, rfl, n1, o1, HS1, rfl, rfl⟩ := hrel
        have hb1 := HSS.out y hy
        rw [← HS1.out] at hb1
        obtain ⟨hb1, hb2⟩ := hb1
        by_cases hyc : y < c
        · have hpm : o1 * (n1 + 1) ≤ 20922789888000 * 17 := Nat.mul_le_mul hb2 (by omega)
          obtain ⟨pr, hpr⟩ : ∃ pr, pr = o1 * (n1 + 1) := ⟨_, rfl⟩
          have e1 : wrap64 ((o1 : Int) * ((n1 : Int) + 1)) = (pr : Int) := by
            have : ((o1 : Int) * ((n1 : Int) + 1)) = ((o1 * (n1 + 1) : Nat) : Int) := by simp
            rw [this, ← hpr]
            exact IntWalk.wrap64_in _ (by omega)
          have e2 : IntKind.i64.wrap ((o1 : Int) * ((n1 : Int) + 1)) = (pr : Int) := by rw [IntWalk.i64_left, e1]
          have HN : Hid ((n1 + 1, pr / (y + 1)) = inn (y + 1) (ordS (cs.take k) (0, 1))) := Lib.hid (by
            rw [show inn (y + 1) (ordS (cs.take k) (0, 1)) = ((inn y (ordS (cs.take k) (0, 1))).1 + 1, (inn y (ordS (cs.take k) (0, 1))).2 * ((inn y (ordS (cs.take k) (0, 1))).1 + 1) / (y + 1)) from rfl, ← HS1.out, hpr])
          obtain ⟨qv, hqv⟩ : ∃ qv, qv = pr / (y + 1) := ⟨_, rfl⟩
          have e3 : ((pr : Int) / ((y : Int) + 1)) = (qv : Int) := by rw [hqv]; simp
          rw [← hqv] at HN
          have hqb : qv ≤ 20922789888000 * 17 := by rw [hqv]; exact Nat.le_trans (Nat.div_le_self _ _) (by rw [hpr]; exact hpm)
          have hy0 : ¬ ((y : Int) + 1 = 0) := by omega
          have hpb : pr ≤ 20922789888000 * 17 := by rw [hpr]; exact hpm
          have hyl : (y : Int) + 1 ≤ (c : Int) := by omega
          have hyl2 : (y : Int) < (c : Int) := by omega
          clear hpm hpr hqv
          go_wp2_with fail
          go_round
          case rel => exact ⟨y + 1, by omega, by go_num, n1 + 1, qv, HN, by go_num, by first | rfl | go_num⟩
          case measure => simp [intOf] <;> omega
        · obtain rfl : y = c := by omega
          rw [← HXX.out] at HS1
          have hyl : ¬ ((y : Int) + 1 ≤ (y : Int)) := by omega
          go_wp2
          go_round
          case rel => exact ⟨k + 1, by omega, by go_num, n1, o1, HS1, rfl, rfl⟩
          case measure => simp [intOf] <;> omega
    · obtain rfl : k = T.length := by omega
      have HE : Hid (oo = ordP P) := Lib.hid (by rw [HORD.out]; have := HST.out; rw [List.take_of_length_le (by rw [HL.out]; omega)] at this; rw [← this])
      go_wp2
      go_ret
      exact ⟨ret_i64 (by rw [HE.out]), hb1⟩
theorem sOrdersOf_any (a : Option Addr) (c B : Nat) (L : List Int) (w : World) (h : Rd w B a (ints L)) (hB : B ≤ w.heap.size) (hl : L.length ≤ 4611686018427387904) :
    Calls Try.prog 34 #[.slice a L.length c] w fun e w' => e = .returned (.int .i64 (ordF L)) ∧ Below w.heap.size w w' := by
  cases hv : valid L with
  | true =>
    have HF := Lib.hid (ordF_yes hv)
    have HV := Lib.hid hv
    clear hv
    go_enter Try.func34, Try.ntmps34
    go_wp2_with (first | (go_at_call 40; refine (validParts_any _ _ B L _ h hl).mono ?_; rintro e w1 ⟨rfl, n, rfl⟩; rw [HV.out]) | (go_at_call 63; refine (ways_any _ _ B L _ (h.dr (Dr.n _ _)) (by exact hB) HV.out).mono ?_; rintro e w1 ⟨rfl, hb⟩))
    go_ret
    exact ⟨ret_i64 HF.out.symm, ((Dr.n w n).below _).trans hb⟩
  | false =>
    have HF := Lib.hid (ordF_no hv)
    have HV := Lib.hid hv
    clear hv
    go_enter Try.func34, Try.ntmps34
    go_wp2_with (go_at_call 40; refine (validParts_any _ _ B L _ h hl).mono ?_; rintro e w1 ⟨rfl, n, rfl⟩; rw [HV.out])
    go_ret
    exact ⟨ret_i64 HF.out.symm, (Dr.n w n).below _⟩
end Go.Proofs.Ytgbkaahmmpgjfaa
