/-
  Walks of the program: marked parts put together. Walks of the model: marked parts: valid, split. What lies aside of some blocks stays. Walks: the laws' own helpers on lists of marks and on marked parts: copied, compared, marked, held, measured.
-/
import Derived.Test.YtbbbfaollcklkaaZp1
import Derived.Test.YtbbbfaollcklkaaZp2
import Derived.Test.YtbbbfaollcklkaaZp3
import Derived.Test.YtbbbfaollcklkaaZp4
import Derived.Test.YtbbbfaollcklkaaZp5
import Derived.Test.YtbbbfaollcklkaaZp6
import Derived.Test.YtbbbfaollcklkaaZp7
import Derived.Test.YtbbbfaollcklkaaZp8
import Derived.Deep.QuietTactic
import Derived.BigQuiet
import Derived.Deep.MidRow
namespace Go.Proofs.Ytbbbfaollcklkaa
open Go.RowKit NP
set_option maxRecDepth 100000
set_option linter.unusedVariables false
set_option linter.unusedSimpArgs false
theorem kindF_dist (L : List Int) (h : valid L = true) : kindF (⟨#[100, 105, 115, 116, 105, 110, 99, 116]⟩ : ByteArray).data.toList L = kFall 1 1 L := by
  show kindF [100, 105, 115, 116, 105, 110, 99, 116] L = _
  rw [kindF_some kindOf_distinct, h, Bool.true_and]
set_option maxHeartbeats 8000000 in
theorem iPutMarked_any (a b : Option Addr) (ca cb Ba Bb : Nat) (P Q : List Int) (w : World) (h : Rd w Ba a (ints P)) (hq : Rd w Bb b (ints Q)) (hBa : Ba ≤ w.heap.size) (hBb : Bb ≤ w.heap.size) (hl : P.length ≤ 4611686018427387904) (hlq : Q.length ≤ 4611686018427387904) :
    Calls Try.prog 18 #[.slice a P.length ca, .slice b Q.length cb] w fun e w' => ∃ b1 b2 d1 d2, e = .returned (.tuple #[.agg #[.slice b1 (pmL P Q).length d1, .slice b2 (pmB P Q).length d2], .bool (pmOk P Q)]) ∧ (∃ m, w.heap.size ≤ m ∧ m ≤ w'.heap.size ∧ Own w' w.heap.size m 4 (.slice b2 (pmB P Q).length d2) (bls (pmB P Q)) ∧ Own w' m w'.heap.size 3 (.slice b1 (pmL P Q).length d1) (ints (pmL P Q))) ∧ Below w.heap.size w w' := by
  have hu := Try.underlying50
  have hum := Try.underlying53
  have hmu := Try.underlying28
  have hi2 : (Try.prog.info? 28).map (·.size) = some 2 := T_mk
  have hiP : (Try.prog.info? 50).map (·.size) = some (arr (dg P)).size := by rw [arr_size, dg_len]; exact T_info35
  have hszP : (arr (dg P)).size = (arr (List.replicate 16 0)).size := by rw [arr_size, arr_size, dg_len]; rfl
  have hiQ : (Try.prog.info? 50).map (·.size) = some (arr (dg Q)).size := by rw [arr_size, dg_len]; exact T_info35
  have hszQ : (arr (dg Q)).size = (arr (List.replicate 16 0)).size := by rw [arr_size, arr_size, dg_len]; rfl
  have hbe0 : Below w.heap.size w (w.alloc (.cells #[.slice none 0 0, .slice none 0 0] 28)) := (Below.refl _ _).alloc (Nat.le_refl _) _
  have hr0 := Blk.new w 28 #[.slice none 0 0, .slice none 0 0]
  obtain ⟨W, hW⟩ : ∃ W, w.alloc (.cells #[.slice none 0 0, .slice none 0 0] 28) = W := ⟨_, rfl⟩
  have hWs : w.heap.size + 1 ≤ W.heap.size := by rw [← hW]; simp
  rw [hW] at hr0 hbe0
  have HTF : Hid (∀ w', Below w.heap.size w w' → Calls Try.prog 45 #[.slice a P.length ca, .slice b Q.length cb] w' fun e w'' => e = .returned (.tuple #[.agg (arr (dg P)), .agg (arr (dg Q)), .bool (two P Q)]) ∧ Below w'.heap.size w' w'') := Lib.hid (fun w' hb => twoThatFit_any _ _ _ _ Ba Bb P Q w' (h.below (hb.mono hBa)) (hq.below (hb.mono hBb)) (Nat.le_trans hBa hb.size) (Nat.le_trans hBb hb.size) hl hlq)
  have HIK : Hid (∀ w', Below w.heap.size w w' → Calls Try.prog 27 #[.string ⟨#[100, 105, 115, 116, 105, 110, 99, 116]⟩, .slice a P.length ca] w' fun e w'' => e = .returned (.bool (kindF (⟨#[100, 105, 115, 116, 105, 110, 99, 116]⟩ : ByteArray).data.toList P)) ∧ Below w'.heap.size w' w'') := Lib.hid (fun w' hb => iIsKind_any ⟨#[100, 105, 115, 116, 105, 110, 99, 116]⟩ (by decide) a ca Ba P w' (h.below (hb.mono hBa)) (Nat.le_trans hBa hb.size) hl)
  have HRD : Hid (∀ w', Below w.heap.size w w' → Rd w' Ba a (ints P)) := Lib.hid (fun w' hb => h.below (hb.mono hBa))
  clear h hq
  obtain ⟨v, hv⟩ : ∃ v, v = two P Q := ⟨_, rfl⟩
  obtain ⟨k1, hk1⟩ : ∃ k1, k1 = kindF (⟨#[100, 105, 115, 116, 105, 110, 99, 116]⟩ : ByteArray).data.toList P := ⟨_, rfl⟩
  rw [← hv] at HTF
  rw [← hk1] at HIK
  have HK1 := Lib.hid hk1
  clear hk1
  cases v with
  | false =>
    have HOK : Hid (pmOk P Q = false) := Lib.hid (by unfold pmOk; rw [← hv]; rfl)
    have HN := Lib.hid (pm_no HOK.out)
    clear hv HIK HRD
    go_enter Try.func18, Try.ntmps18
    go_wp2_with (first
      | (go_at_call 45; refine (HTF.out _ hbe0).mono ?_; rintro e w1 ⟨rfl, hb1⟩; have hr1 := hr0.below hb1 hr0.lt; have hbe1 := hbe0.trans (hb1.mono hbe0.size))
      | (refine wpList_store_row rfl 50 (.tmp 6) (.tmp 16) rfl w1.heap.size rfl (arr (dg P)) rfl 50 (arr (List.replicate 16 0)) ((Blk.new w1 _ _).alloc _) hiP hszP (arr_one _) ?_)
      | (refine wpList_store_row rfl 50 (.tmp 7) (.tmp 17) rfl (w1.heap.size + 1) rfl (arr (dg Q)) rfl 50 (arr (List.replicate 16 0)) (first_row w1 _ _ _) hiQ hszQ (arr_one _) ?_; have hR := two_rows w1 50 (arr (List.replicate 16 0)) (arr (dg P)) (arr (dg Q)); obtain ⟨w2, hw2⟩ : ∃ w2, w2 = (((w1.alloc (.cells (#[.int .i64 0, .int .i64 0, .int .i64 0, .int .i64 0, .int .i64 0, .int .i64 0, .int .i64 0, .int .i64 0, .int .i64 0, .int .i64 0, .int .i64 0, .int .i64 0, .int .i64 0, .int .i64 0, .int .i64 0, .int .i64 0]) 50)).alloc (.cells (#[.int .i64 0, .int .i64 0, .int .i64 0, .int .i64 0, .int .i64 0, .int .i64 0, .int .i64 0, .int .i64 0, .int .i64 0, .int .i64 0, .int .i64 0, .int .i64 0, .int .i64 0, .int .i64 0, .int .i64 0, .int .i64 0]) 50)).setRow w1.heap.size (arr (dg P))).setRow (w1.heap.size + 1) (arr (dg Q)) := ⟨_, rfl⟩; rw [← hw2]; replace hR : Blk w2 w1.heap.size 50 (arr (dg P)) ∧ Blk w2 (w1.heap.size + 1) 50 (arr (dg Q)) ∧ Below w1.heap.size w1 w2 := hw2 ▸ hR; clear hw2; obtain ⟨hB6, hB7, hbw⟩ := hR; have hb2 := hb1.trans (hbw.mono hb1.size); have hr2 := hr1.below hbw hr1.lt; have hbe2 := hbe1.trans (hbw.mono hbe1.size))
      | (refine wpList_store_row rfl 28 (.tmp 4) (.tmp 26) rfl w.heap.size rfl #[.slice none 0 0, .slice none 0 0] rfl 28 _ hr2 hi2 rfl (by simp [Value.oneCell']) ?_))
    refine bodyPost_ret (results_cell_tmp rfl _ _ w.heap.size 28 #[.slice none 0 0, .slice none 0 0] (0, 0) _ rfl hr2.row hmu rfl hi2) rfl ?_
    rw [HN.out.1, HN.out.2, HOK.out]
    have hbt := hbe2
    exact ⟨none, none, 0, 0, rfl, ⟨w.heap.size, Nat.le_refl _, by simpa using hbt.size, own_nil3 _ _ _ _ (by simpa using hbt.size), Own.nil _ _ _⟩, below_setRow' hbt (by omega) _⟩
  | true =>
    have HT := Lib.hid hv.symm
    cases k1 with
    | false =>
      have HOK : Hid (pmOk P Q = false) := Lib.hid (by
        have hvp := (two_out HT.out).1
        have := HK1.out
        rw [kindF_dist P hvp] at this
        unfold pmOk; rw [← this]; simp)
      have HN := Lib.hid (pm_no HOK.out)
      clear hv HRD
      go_enter Try.func18, Try.ntmps18
      go_wp2_with (first
        | (go_at_call 45; refine (HTF.out _ hbe0).mono ?_; rintro e w1 ⟨rfl, hb1⟩; have hr1 := hr0.below hb1 hr0.lt; have hbe1 := hbe0.trans (hb1.mono hbe0.size))
        | (go_at_call 27; refine (HIK.out _ hbe2).mono ?_; rintro e w4 ⟨rfl, hb4⟩; have hr4 := hr2.below hb4 hr2.lt; have hbe4 := hbe2.trans (hb4.mono hbe2.size))
        | (refine wpList_store_row rfl 50 (.tmp 6) (.tmp 16) rfl w1.heap.size rfl (arr (dg P)) rfl 50 (arr (List.replicate 16 0)) ((Blk.new w1 _ _).alloc _) hiP hszP (arr_one _) ?_)
        | (refine wpList_store_row rfl 50 (.tmp 7) (.tmp 17) rfl (w1.heap.size + 1) rfl (arr (dg Q)) rfl 50 (arr (List.replicate 16 0)) (first_row w1 _ _ _) hiQ hszQ (arr_one _) ?_; have hR := two_rows w1 50 (arr (List.replicate 16 0)) (arr (dg P)) (arr (dg Q)); obtain ⟨w2, hw2⟩ : ∃ w2, w2 = (((w1.alloc (.cells (#[.int .i64 0, .int .i64 0, .int .i64 0, .int .i64 0, .int .i64 0, .int .i64 0, .int .i64 0, .int .i64 0, .int .i64 0, .int .i64 0, .int .i64 0, .int .i64 0, .int .i64 0, .int .i64 0, .int .i64 0, .int .i64 0]) 50)).alloc (.cells (#[.int .i64 0, .int .i64 0, .int .i64 0, .int .i64 0, .int .i64 0, .int .i64 0, .int .i64 0, .int .i64 0, .int .i64 0, .int .i64 0, .int .i64 0, .int .i64 0, .int .i64 0, .int .i64 0, .int .i64 0, .int .i64 0]) 50)).setRow w1.heap.size (arr (dg P))).setRow (w1.heap.size + 1) (arr (dg Q)) := ⟨_, rfl⟩; rw [← hw2]; replace hR : Blk w2 w1.heap.size 50 (arr (dg P)) ∧ Blk w2 (w1.heap.size + 1) 50 (arr (dg Q)) ∧ Below w1.heap.size w1 w2 := hw2 ▸ hR; clear hw2; obtain ⟨hB6, hB7, hbw⟩ := hR; have hb2 := hb1.trans (hbw.mono hb1.size); have hr2 := hr1.below hbw hr1.lt; have hbe2 := hbe1.trans (hbw.mono hbe1.size))
        | (refine wpList_store_row rfl 28 (.tmp 4) (.tmp 26) rfl w.heap.size rfl #[.slice none 0 0, .slice none 0 0] rfl 28 _ hr4 hi2 rfl (by simp [Value.oneCell']) ?_))
      refine bodyPost_ret (results_cell_tmp rfl _ _ w.heap.size 28 #[.slice none 0 0, .slice none 0 0] (0, 0) _ rfl hr4.row hmu rfl hi2) rfl ?_
      rw [HN.out.1, HN.out.2, HOK.out]
      have hbt := hbe4
      exact ⟨none, none, 0, 0, rfl, ⟨w.heap.size, Nat.le_refl _, by simpa using hbt.size, own_nil3 _ _ _ _ (by simpa using hbt.size), Own.nil _ _ _⟩, below_setRow' hbt (by omega) _⟩
    | true =>
      have HOK : Hid (pmOk P Q = true) := Lib.hid (by
        have hvp := (two_out HT.out).1
        have := HK1.out
        rw [kindF_dist P hvp] at this
        unfold pmOk; rw [HT.out, ← this]; rfl)
      have HN := Lib.hid (pm_yes HOK.out)
      have hcv := valid_uni HT.out
      obtain ⟨hvp, hvq, _⟩ := two_out HT.out
      have hum2 : (um (fun i => (dg P).getD i 0) (fun i => (dg Q).getD i 0) 16).1 = pad (uni P Q) := by
        rw [← um_uni HT.out]
        have e1 : (fun i => (dg P).getD i 0) = (fun i => P.getD i 0) := by funext i; rw [dg_yes hvp]; exact pad_getD (valid_bd hvp).2.2.2 i
        have e2 : (fun i => (dg Q).getD i 0) = (fun i => Q.getD i 0) := by funext i; rw [dg_yes hvq]; exact pad_getD (valid_bd hvq).2.2.2 i
        rw [e1, e2]
      have HUM := Lib.hid hum2
      have hpt := pmT_len P Q
      have HPT : Hid (mkOf (uni P Q) (fun i => hasI P ((uni P Q).getD i 0)) = pmT P Q) := Lib.hid rfl
      obtain ⟨C, hC⟩ : ∃ C, C = uni P Q := ⟨_, rfl⟩
      rw [← hC] at hcv HUM HN HPT hpt
      obtain ⟨f, hf⟩ : ∃ f : Nat → Bool, f = fun i => hasI P (C.getD i 0) := ⟨_, rfl⟩
      rw [← hf] at HPT
      obtain ⟨Tm, hTm⟩ : ∃ Tm, Tm = pmT P Q := ⟨_, rfl⟩
      rw [← hTm] at HPT hpt HN
      have HST : Hid (stM (fl (isCD (pad C)) 16) f = padB Tm) := Lib.hid (by rw [← HPT.out]; exact stM_pad hcv f)
      have hcl := (valid_bd hcv).2.2.2
      have hpc := pad_len hcl
      have HPC := Lib.hid hpc
      have HAT := Lib.hid (fun i (hi : i < C.length) => pad_at hcv hi)
      have HFM := Lib.hid (fun x hx => fl_mem (p := isCD (pad C)) (n := 16) (x := x) hx)
      have HLT := Lib.hid (fun i (hi : isCD (pad C) i = true) => isCD_lt hcv hi)
      have hfl := fl_len (isCD (pad C)) 16
      have HPP := Lib.hid (fun w => mparts_any C Tm hcv hpt w)
      clear hpt
      have HF := Lib.hid hf
      have hB1' : ∀ w : World, (Instr.build 53 #[(0, .agg (arr (pad C)))]).run Try.prog w = .ok (.agg (mdA (pad C) (List.replicate 16 false))) w := fun w => T_bmd (pad C) hpc w
      have hiC : (Try.prog.info? 50).map (·.size) = some (arr (pad C)).size := by rw [arr_size, hpc]; exact T_info35
      have hiM : ∀ E : List Bool, E.length = 16 → (Try.prog.info? 53).map (·.size) = some (mdA (pad C) E).size := fun E hE => by rw [mdA_size, hpc, hE]; exact T_md
      have HIM := Lib.hid hiM
      have hpreC := fun E => mdA_pre (pad C) E
      obtain ⟨Y, hY⟩ : ∃ Y, Y = mdA (pad C) (List.replicate 16 false) := ⟨_, rfl⟩
      have hiY : (Try.prog.info? 53).map (·.size) = some Y.size := by rw [hY]; exact hiM _ (by simp)
      have hszY : Y.size = (#[.int .i64 0, .int .i64 0, .int .i64 0, .int .i64 0, .int .i64 0, .int .i64 0, .int .i64 0, .int .i64 0, .int .i64 0, .int .i64 0, .int .i64 0, .int .i64 0, .int .i64 0, .int .i64 0, .int .i64 0, .int .i64 0, .bool false, .bool false, .bool false, .bool false, .bool false, .bool false, .bool false, .bool false, .bool false, .bool false, .bool false, .bool false, .bool false, .bool false, .bool false, .bool false] : Array Value).size := by rw [hY, mdA_size, hpc]; rfl
      have honeY : ∀ v ∈ Y.toList, v.oneCell' = true := by rw [hY]; exact mdA_one _ _
      have hpreY : ∀ j (v : Value), (arr (pad C))[j]? = some v → Y[0 + j]? = some v := by rw [hY]; exact hpreC _
      rw [← hY] at hB1'
      have HY := Lib.hid hY
      obtain ⟨F, hF⟩ : ∃ F, F = fl (isCD (pad C)) 16 := ⟨_, rfl⟩
      have HDC : Hid (∀ w, Calls Try.prog 47 #[.agg (arr (pad C))] w fun e w' => ∃ a' c', e = .returned (.slice a' F.length c') ∧ Own w' w.heap.size w'.heap.size 3 (.slice a' F.length c') (ints F) ∧ Below w.heap.size w w') := Lib.hid (fun w => by rw [hF]; exact dcorners_any (pad C) hpc w)
      rw [← hF] at HST HFM hfl
      clear hv hcv hvp hvq hum2 hC hf hTm hY hF hiM hpreC
      go_enter Try.func18, Try.ntmps18
      go_wp2_with (first
        | (go_at_call 45; refine (HTF.out _ hbe0).mono ?_; rintro e w1 ⟨rfl, hb1⟩; have hr1 := hr0.below hb1 hr0.lt; have hbe1 := hbe0.trans (hb1.mono hbe0.size))
        | (go_at_call 27; refine (HIK.out _ hbe2).mono ?_; rintro e w4 ⟨rfl, hb4⟩; have hr4 := hr2.below hb4 hr2.lt; have hbe4 := hbe2.trans (hb4.mono hbe2.size); have hC6 := hB6.below hb4 hB6.lt; have hC7 := hB7.below hb4 hB7.lt)
        | (go_at_call 46; refine (unite_any (dg P) (dg Q) (dg_len P) (dg_len Q) _).mono ?_; rintro e w3 ⟨rfl, hb3⟩; rw [HUM.out]; have hrk := hr4.below hb3 hr4.lt; have hbe3 := hbe4.trans (hb3.mono hbe4.size); have hz3 := hbe3.size; have hrkl := hrk.lt)
        | (refine wpList_load_row rfl 50 (.tmp 6) rfl w1.heap.size rfl 50 (arr (dg P)) (0, 0) _ hC6 Try.underlying50 rfl hiP ?_)
        | (refine wpList_load_row rfl 50 (.tmp 7) rfl (w1.heap.size + 1) rfl 50 (arr (dg Q)) (0, 0) _ hC7 Try.underlying50 rfl hiQ ?_)
        | (refine wpList_exec rfl (exec_build1 (u1 := .agg (arr (pad C))) (v := .agg Y) 53 (.tmp 29) rfl rfl (hB1' _)) ?_)
        | (refine wpList_load_at rfl 50 (.tmp 31) rfl w3.heap.size 0 rfl 53 Y (arr (pad C)) _ hB5 hu rfl hiC hpreY ?_)
        | (go_at_call 47; refine (HDC.out _).mono ?_; rintro e w6 ⟨aF, cF, rfl, hu6, hb6⟩; have HU6 := Lib.hid hu6; clear hu6; have hrk6 := hrk5.below hb6 hrk5.lt; have hG6 := hB5.below hb6 hB5.lt; have hbe6 := hbe5.trans (hb6.mono hbe5.size); have hz6 := hb6.size)
        | (refine wpList_store_row rfl 50 (.tmp 6) (.tmp 16) rfl w1.heap.size rfl (arr (dg P)) rfl 50 (arr (List.replicate 16 0)) ((Blk.new w1 _ _).alloc _) hiP hszP (arr_one _) ?_)
        | (refine wpList_store_row rfl 50 (.tmp 7) (.tmp 17) rfl (w1.heap.size + 1) rfl (arr (dg Q)) rfl 50 (arr (List.replicate 16 0)) (first_row w1 _ _ _) hiQ hszQ (arr_one _) ?_; have hR := two_rows w1 50 (arr (List.replicate 16 0)) (arr (dg P)) (arr (dg Q)); obtain ⟨w2, hw2⟩ : ∃ w2, w2 = (((w1.alloc (.cells (#[.int .i64 0, .int .i64 0, .int .i64 0, .int .i64 0, .int .i64 0, .int .i64 0, .int .i64 0, .int .i64 0, .int .i64 0, .int .i64 0, .int .i64 0, .int .i64 0, .int .i64 0, .int .i64 0, .int .i64 0, .int .i64 0]) 50)).alloc (.cells (#[.int .i64 0, .int .i64 0, .int .i64 0, .int .i64 0, .int .i64 0, .int .i64 0, .int .i64 0, .int .i64 0, .int .i64 0, .int .i64 0, .int .i64 0, .int .i64 0, .int .i64 0, .int .i64 0, .int .i64 0, .int .i64 0]) 50)).setRow w1.heap.size (arr (dg P))).setRow (w1.heap.size + 1) (arr (dg Q)) := ⟨_, rfl⟩; rw [← hw2]; replace hR : Blk w2 w1.heap.size 50 (arr (dg P)) ∧ Blk w2 (w1.heap.size + 1) 50 (arr (dg Q)) ∧ Below w1.heap.size w1 w2 := hw2 ▸ hR; clear hw2; obtain ⟨hB6, hB7, hbw⟩ := hR; have hb2 := hb1.trans (hbw.mono hb1.size); have hr2 := hr1.below hbw hr1.lt; have hbe2 := hbe1.trans (hbw.mono hbe1.size))
        | (refine wpList_store_row rfl 53 (.tmp 9) (.tmp 30) rfl w3.heap.size rfl Y rfl 53 #[.int .i64 0, .int .i64 0, .int .i64 0, .int .i64 0, .int .i64 0, .int .i64 0, .int .i64 0, .int .i64 0, .int .i64 0, .int .i64 0, .int .i64 0, .int .i64 0, .int .i64 0, .int .i64 0, .int .i64 0, .int .i64 0, .bool false, .bool false, .bool false, .bool false, .bool false, .bool false, .bool false, .bool false, .bool false, .bool false, .bool false, .bool false, .bool false, .bool false, .bool false, .bool false] (Blk.new w3 _ _) hiY hszY honeY ?_; have hB5 := (Blk.new w3 53 #[.int .i64 0, .int .i64 0, .int .i64 0, .int .i64 0, .int .i64 0, .int .i64 0, .int .i64 0, .int .i64 0, .int .i64 0, .int .i64 0, .int .i64 0, .int .i64 0, .int .i64 0, .int .i64 0, .int .i64 0, .int .i64 0, .bool false, .bool false, .bool false, .bool false, .bool false, .bool false, .bool false, .bool false, .bool false, .bool false, .bool false, .bool false, .bool false, .bool false, .bool false, .bool false]).row (vs := Y); have hb15 : Below w3.heap.size w3 ((w3.alloc (.cells #[.int .i64 0, .int .i64 0, .int .i64 0, .int .i64 0, .int .i64 0, .int .i64 0, .int .i64 0, .int .i64 0, .int .i64 0, .int .i64 0, .int .i64 0, .int .i64 0, .int .i64 0, .int .i64 0, .int .i64 0, .int .i64 0, .bool false, .bool false, .bool false, .bool false, .bool false, .bool false, .bool false, .bool false, .bool false, .bool false, .bool false, .bool false, .bool false, .bool false, .bool false, .bool false] 53)).setRow w3.heap.size Y) := below_setRow' ((Below.refl _ _).alloc (Nat.le_refl _) _) (Nat.le_refl _) _; obtain ⟨w5, hw5⟩ : ∃ w5, w5 = (w3.alloc (.cells #[.int .i64 0, .int .i64 0, .int .i64 0, .int .i64 0, .int .i64 0, .int .i64 0, .int .i64 0, .int .i64 0, .int .i64 0, .int .i64 0, .int .i64 0, .int .i64 0, .int .i64 0, .int .i64 0, .int .i64 0, .int .i64 0, .bool false, .bool false, .bool false, .bool false, .bool false, .bool false, .bool false, .bool false, .bool false, .bool false, .bool false, .bool false, .bool false, .bool false, .bool false, .bool false] 53)).setRow w3.heap.size Y := ⟨_, rfl⟩; rw [← hw5]; replace hB5 : Blk w5 w3.heap.size 53 Y := hw5 ▸ hB5; replace hb15 : Below w3.heap.size w3 w5 := hw5 ▸ hb15; clear hw5; have hrk5 := hrk.below hb15 hrk.lt; have hbe5 := hbe3.trans (hb15.mono hbe3.size)))
      have hGl := hB5.lt
      have hrl := hrk.lt
      obtain ⟨G, hG⟩ : ∃ G, G = w3.heap.size := ⟨_, rfl⟩
      rw [← hG] at hG6 hGl hrl ⊢
      rw [HY.out] at hG6
      have hGz : w.heap.size < G := by omega
      have HR := Lib.hid HU6.out.rd
      have HGlo : Hid (∀ b o, aF = some ⟨b, o, none⟩ → b ≠ G ∨ F = []) := Lib.hid (by
        intro b o e
        rcases Nat.eq_zero_or_pos F.length with h0 | h0
        · exact .inr (List.eq_nil_of_length_eq_zero h0)
        · left
          obtain ⟨g, c9, e9, _⟩ := HU6.out.formN (by simpa using h0)
          injection e9 with e9
          rw [e] at e9
          injection e9 with e9; injection e9 with e9
          have h1 := HU6.out.base g (by simp [Value.ownBlock, e, e9])
          omega)
      clear hr0 hbe0 hr1 hbe1 hb1 hB6 hB7 hbw hb2 hr2 hbe2 hb4 hr4 hbe4 hC6 hC7 hb3 hrk hbe3 hb15 hB5 hrk5 hbe5 hb6 hW hG HTF HIK
      go_loopw [35] (fun i wr => ∃ k : Nat, k ≤ F.length ∧ i = .int .i64 k ∧ Below w.heap.size w wr ∧ Blk wr w.heap.size 28 #[.slice none 0 0, .slice none 0 0] ∧ Blk wr G 53 (mdA (pad C) (stM (F.take k) f)) ∧ (∀ j (hj : j < F.length), ∃ b o, aF = some ⟨b, o, none⟩ ∧ b ≠ G ∧ wr.cell? ⟨b, o + j, none⟩ = some (.int .i64 F[j]))) (fun i _ => 20 - (intOf i).toNat)
      case atStart =>
        refine ⟨0, Nat.zero_le _, rfl, hbe6, hrk6, hG6, fun j hj => ?_⟩
        obtain ⟨b, o, e, _, hc⟩ := HR.out.at_ hj
        refine ⟨b, o, e, ?_, hc⟩
        rcases HGlo.out b o e with h | h
        · exact h
        · rw [h] at hj; simp at hj
      case round =>
        obtain ⟨k, hk, rfl, hbel, hrk, hBG, hcs⟩ := hrel
        clear hbe6 hrk6 hG6
        by_cases hlt : k < F.length
        · have hlt' : (k : Int) < (F.length : Int) := by omega
          obtain ⟨b1, o1, rfl, hb1n, hc1⟩ := hcs k hlt
          obtain ⟨i, hxi, hi16', hci⟩ := HFM.out F[k] (List.getElem_mem hlt)
          have HSS := Lib.hid (stM_succ hlt f)
          rw [hxi] at hc1 HSS
          have hil := HLT.out i hci
          obtain ⟨hpi, hpe, hd1, hd2⟩ := HAT.out i hil
          have hci1 : wr.cell? ⟨G, i, none⟩ = some (.int .i64 (C.getD i 0)) := by rw [hBG.cell i, mdA_int _ _ i hpi, hpe]
          have hEl : (stM (F.take k) f).length = 16 := stM_len _ _
          have HFI : Hid (f i = hasI P (C.getD i 0)) := Lib.hid (by rw [HF.out])
          have hcG : wr.cell? ⟨G, 16 + i, none⟩ = some (.bool ((stM (F.take k) f)[i]'(by omega))) := by rw [hBG.cell (16 + i), mdA_bool _ _ HPC.out i (by omega)]
          have hfG : wr.frozen? ⟨G, 16 + i, none⟩ = false := hBG.free _
          have HSET : Hid ((mdA (pad C) (stM (F.take k) f)).setIfInBounds (16 + i) (.bool (hasI P (C.getD i 0))) = mdA (pad C) (stM (F.take (k + 1)) f)) := Lib.hid (by
            rw [mdA_set _ _ HPC.out, HSS.out]
            simp only [Int.toNat_natCast]
            rw [HFI.out])
          have HCS := Lib.hid hcs
          have hi16i : (i : Int) < 16 := by omega
          have hrp := HRD.out wr hbel
          have HCN := Lib.hid (contains_any a ca Ba P (C.getD i 0) wr hrp hl)
          generalize (stM (F.take k) f)[i]'_ = y at hcG
          generalize C.getD i 0 = x at hci1 HSET HCN
          generalize hasI P x = mm at HSET HCN
          clear hxi hpe hcs hci hEl hrp hd1 hd2 HFI
          go_wp2_with (go_at_call 48; refine HCN.out.mono ?_; rintro e w' ⟨rfl, rfl⟩)
          go_roundw
          case rel =>
            refine ⟨k + 1, by omega, by go_num, hbel.setCell (by show w.heap.size ≤ G; omega) _, hrk.off (by show w.heap.size ≠ G; omega) _, ?_, fun j hj => ?_⟩
            · have e := hBG.set (16 + i) (.bool mm)
              rw [HSET.out] at e
              exact e
            · obtain ⟨b, o, e, hbn, hc⟩ := HCS.out j hj
              refine ⟨b, o, e, hbn, ?_⟩
              have hne : (⟨G, 16 + i, none⟩ : Addr) ≠ ⟨b, o + j, none⟩ := fun h => hbn (congrArg Addr.block h).symm
              exact (World.cell?_setCell_other _ _ _ _ hne).trans hc
          case measure => simp [intOf]; omega
        · obtain rfl : k = F.length := by omega
          rw [List.take_of_length_le (Nat.le_refl _), HST.out] at hBG
          have hle : (padB Tm).length = 16 := by rw [← HST.out]; exact stM_len _ _
          have hiQ2 := HIM.out _ hle
          obtain ⟨M, hM⟩ : ∃ M, M = mdA (pad C) (padB Tm) := ⟨_, rfl⟩
          rw [← hM] at hBG hiQ2 HPP
          have hz9 := hbel.size
          have hrl9 := hrk.lt
          clear hM hcs hle
          go_wp2_with (first
            | (refine wpList_load_row rfl 53 (.tmp 9) rfl G rfl 53 M (0, 0) _ hBG hum rfl hiQ2 ?_)
            | (go_at_call 49; refine (HPP.out _).mono ?_; rintro e w8 ⟨u1, u2, rfl, om, hb8⟩; have HOM := Lib.hid om; have hr8 := hrk.below hb8 hrk.lt; have hz8 := hb8.size; clear om)
            | (refine wpList_store_row rfl 28 (.tmp 4) (.tmp 50) rfl w.heap.size rfl #[.slice u1 C.length C.length, .slice u2 Tm.length Tm.length] rfl 28 _ hr8 hi2 rfl (by simp [Value.oneCell']) ?_))
          refine bodyPost_ret (results_cell_tmp rfl _ _ w.heap.size 28 #[.slice u1 C.length C.length, .slice u2 Tm.length Tm.length] (0, 0) _ rfl hr8.row hmu rfl hi2) rfl ?_
          have hbu := hbel.trans (hb8.mono hbel.size)
          obtain ⟨m, hm1, hm2, om1, om2⟩ := HOM.out
          rw [HN.out.1, HN.out.2, HOK.out]
          refine ⟨u1, u2, _, _, rfl, ⟨m, by omega, by simpa using hm2, ?_, ?_⟩, below_setRow' hbu (by omega) _⟩
          · refine (om1.keep (w' := w8.setRow w.heap.size #[.slice u1 C.length C.length, .slice u2 Tm.length Tm.length]) (by simp) (fun g hg => ?_)).lower hz9
            have := om1.base g hg
            exact setRow_other _ _ _ _ (by omega)
          · have e := om2.keep (w' := w8.setRow w.heap.size #[.slice u1 C.length C.length, .slice u2 Tm.length Tm.length]) (by simp) (fun g hg => by
              have := om2.base g hg
              exact setRow_other _ _ _ _ (by omega))
            simpa using e
end Go.Proofs.Ytbbbfaollcklkaa
namespace Go.Proofs.Ytbbbfaollcklkaa
open Go.RowKit NP
set_option maxRecDepth 100000
set_option linter.unusedVariables false
set_option linter.unusedSimpArgs false
theorem boolRe {w : World} {B : Nat} {a : Option Addr} {bs : List Bool} (h : Rd w B a (bls bs)) {k : Nat} (hk : k < bs.length) : ∃ b o, a = some ⟨b, o, none⟩ ∧ b < B ∧ w.cell? ⟨b, o + k, none⟩ = some (.bool bs[k]) := by
  obtain ⟨b, o, h1, h2, h3⟩ := h (fun e => by
    have h0 : bs.length = 0 := by simpa using congrArg List.length e
    omega)
  exact ⟨b, o, h1, h2, h3 k _ (by simp [hk])⟩
theorem isC_eq {L : List Int} (h : valid L = true) {k : Nat} (hk : k + 1 < L.length) : isC L k = !(L[k]'(by omega) == L[k + 1]) := by
  have h1 := (preS_of_valid h (k + 1) hk hk).2.2 (by omega)
  simp only [Nat.add_sub_cancel] at h1
  unfold isC
  rw [decide_eq_false (by omega), Bool.false_or, getD_lt hk, getD_lt (by omega)]
  by_cases e : L[k]'(by omega) = L[k + 1]
  · rw [decide_eq_false (by omega), beq_iff_eq.2 e]; rfl
  · rw [decide_eq_true (by omega), beq_eq_false_iff_ne.2 e]; rfl
theorem isC_end {L : List Int} {k : Nat} (hk : k + 1 = L.length) : isC L k = true := by unfold isC; rw [decide_eq_true hk]; rfl
set_option maxHeartbeats 4000000 in
theorem validMarked_any (a1 a2 : Option Addr) (c1 c2 B1 B2 : Nat) (L : List Int) (bs : List Bool) (w : World) (h1 : Rd w B1 a1 (ints L)) (h2 : Rd w B2 a2 (bls bs)) (hB1 : B1 ≤ w.heap.size) (hB2 : B2 ≤ w.heap.size) (hl1 : L.length ≤ 4611686018427387904) (hl2 : bs.length ≤ 4611686018427387904) :
    Calls Try.prog 38 #[.agg #[.slice a1 L.length c1, .slice a2 bs.length c2]] w fun e w' => e = .returned (.bool (vmk L bs)) ∧ Below w.heap.size w w' := by
  have hA0 : Below w.heap.size w (w.alloc (.cells #[.slice a1 L.length c1, .slice a2 bs.length c2] 28)) := (Below.refl _ _).alloc (Nat.le_refl _) _
  have hx0 := Blk.new w 28 #[.slice a1 L.length c1, .slice a2 bs.length c2]
  obtain ⟨W, hW⟩ : ∃ W, w.alloc (.cells #[.slice a1 L.length c1, .slice a2 bs.length c2] 28) = W := ⟨_, rfl⟩
  rw [hW] at hA0 hx0
  have m1' : ∀ n, (W.drewN n).cell? ⟨w.heap.size, 0, none⟩ = some (.slice a1 L.length c1) := fun n => hx0.cell 0
  have m2' : ∀ n, (W.drewN n).cell? ⟨w.heap.size, 1, none⟩ = some (.slice a2 bs.length c2) := fun n => hx0.cell 1
  have m10 : W.cell? ⟨w.heap.size, 0, none⟩ = some (.slice a1 L.length c1) := m1' 0
  have m20 : W.cell? ⟨w.heap.size, 1, none⟩ = some (.slice a2 bs.length c2) := m2' 0
  have M1 := Lib.hid m1'
  have M2 := Lib.hid m2'
  have H1 := Lib.hid ((h1.more hB1).below hA0)
  have H2 := Lib.hid ((h2.more hB2).below hA0)
  have HC := Lib.hid (validParts_any a1 c1 w.heap.size L W H1.out hl1)
  clear h1 h2 hx0
  obtain ⟨v, hv⟩ : ∃ v, v = valid L := ⟨_, rfl⟩
  rw [← hv] at HC
  cases v with
  | false =>
    have HF : Hid (vmk L bs = false) := Lib.hid (vmk_badL hv.symm)
    clear hv
    go_enter Try.func38, Try.ntmps38
    go_wp2_with (go_at_call 53; refine HC.out.mono ?_; rintro e w1 ⟨rfl, n1, rfl⟩)
    go_ret
    exact ⟨ret_bool HF.out.symm, hA0.trans ((Dr.n W n1).below _)⟩
  | true =>
    have HV := Lib.hid hv.symm
    have hl16 := (valid_bd hv.symm).2.2.2
    clear hv
    by_cases hlen : bs.length = L.length
    · have hne : ((bs.length : Int) != (L.length : Int)) = false := by simp [hlen]
      have HLEN := Lib.hid hlen
      have hb16 : bs.length ≤ 16 := by omega
      clear hlen
      go_enter Try.func38, Try.ntmps38
      go_wp2_with (go_at_call 53; refine HC.out.mono ?_; rintro e w1 ⟨rfl, n1, rfl⟩)
      clear hne m10 m20 m1' m2'
      go_loopw [3] (fun i wr => ∃ k : Nat, k ≤ L.length ∧ i = .int .i64 k ∧ Dr W wr ∧ Hid (∀ j, j < k → j + 1 < L.length → mkC L bs j = true)) (fun i _ => 20 - (intOf i).toNat)
      case atStart => exact ⟨0, Nat.zero_le _, rfl, Dr.n W n1, Lib.hid fun j hj => by omega⟩
      case round =>
        obtain ⟨k, hk, rfl, hdr, HP⟩ := hrel
        have q1 : wr.cell? ⟨w.heap.size, 0, none⟩ = some (.slice a1 L.length c1) := by obtain ⟨n, rfl⟩ := hdr; exact M1.out n
        have q2 : wr.cell? ⟨w.heap.size, 1, none⟩ = some (.slice a2 bs.length c2) := by obtain ⟨n, rfl⟩ := hdr; exact M2.out n
        by_cases hlt : k + 1 < L.length
        · have hlt' : (k : Int) + 1 < (L.length : Int) := by omega
          have hk1 : k < L.length := by omega
          have hk1i : (k : Int) < (L.length : Int) := by omega
          have hkb : k < bs.length := by have := HLEN.out; omega
          have hkbi : (k : Int) < (bs.length : Int) := by omega
          have hw1 : IntKind.i64.wrap ((k : Int) + 1) = (k : Int) + 1 := IntWalk.i64_in _ (by omega)
          have hk0 : (0 : Int) ≤ (k : Int) + 1 := by omega
          obtain ⟨b2, o2, rfl, -, hc2⟩ := boolRe (H2.out.dr hdr) hkb
          have HMK : Hid (mkC L bs k = (!bs[k] || isC L k)) := Lib.hid (by unfold mkC; rw [List.getD_eq_getElem?_getD, List.getElem?_eq_getElem hkb]; rfl)
          have HIE := Lib.hid (isC_eq HV.out hlt)
          have HPJ : Hid (mkC L bs k = true → ∀ j, j < k + 1 → j + 1 < L.length → mkC L bs j = true) := Lib.hid (fun h j hj hj2 => by
            rcases Nat.lt_or_ge j k with h1 | h1
            · exact HP.out j h1 hj2
            · rw [show j = k by omega]; exact h)
          obtain ⟨b1, o1, e1, -, hc1⟩ := (H1.out.dr hdr).at_ hk1
          obtain ⟨b3, o3, e3, -, hc3⟩ := (H1.out.dr hdr).at_ hlt
          subst e1
          injection e3 with e3; injection e3 with e4 e5; subst e4 e5
          have HB := Lib.hid (vmk_badC (L := L) (bs := bs) hk1)
          generalize L[k] = x at *
          generalize L[k + 1] = y at *
          obtain ⟨m, hm⟩ : ∃ m, m = bs[k] := ⟨_, rfl⟩
          rw [← hm] at hc2 HMK
          clear hm
          cases m with
          | false =>
            have HOK := Lib.hid (HPJ.out (by rw [HMK.out]; rfl))
            clear hc1 hc3
            go_wp2_with fail
            go_quiet (fail)
            go_wp2_with fail
            go_roundw
            case rel => exact ⟨k + 1, by omega, by go_num, hdr.drewN _, HOK⟩
            case measure => simp [intOf]; omega
          | true =>
            by_cases hxy : x = y
            · have hbe : (x == y) = true := beq_iff_eq.2 hxy
              have HF : Hid (vmk L bs = false) := Lib.hid (HB.out (by rw [HMK.out, HIE.out, hbe]; rfl))
              clear hxy
              go_wp2_with fail
              go_quiet (fail)
              go_wp2_with fail
              go_ret
              exact ⟨ret_bool HF.out.symm, hA0.trans ((hdr.drewN _).below _)⟩
            · have hbe : (x == y) = false := beq_eq_false_iff_ne.2 hxy
              have HOK := Lib.hid (HPJ.out (by rw [HMK.out, HIE.out, hbe]; rfl))
              clear hxy
              go_wp2_with fail
              go_quiet (fail)
              go_wp2_with fail
              go_roundw
              case rel => exact ⟨k + 1, by omega, by go_num, hdr.drewN _, HOK⟩
              case measure => simp [intOf]; omega
        · have hge : ¬ (k : Int) + 1 < (L.length : Int) := by omega
          have HF : Hid (vmk L bs = true) := Lib.hid (vmk_iff.2 ⟨HV.out, HLEN.out, fun i hi => by
            rcases Nat.lt_or_ge (i + 1) L.length with h9 | h9
            · exact HP.out i (by omega) h9
            · unfold mkC; rw [isC_end (by omega)]; simp⟩)
          clear hlt
          go_wp2_with fail
          go_ret
          exact ⟨ret_bool HF.out.symm, hA0.trans (hdr.below _)⟩
    · have hne : ((bs.length : Int) != (L.length : Int)) = true := by simpa using fun h => hlen (by omega)
      have HF : Hid (vmk L bs = false) := Lib.hid (vmk_badN hlen)
      clear hlen
      go_enter Try.func38, Try.ntmps38
      go_wp2_with (go_at_call 53; refine HC.out.mono ?_; rintro e w1 ⟨rfl, n1, rfl⟩)
      go_ret
      exact ⟨ret_bool HF.out.symm, hA0.trans ((Dr.n W n1).below _)⟩
theorem sValidMarked_any (a1 a2 : Option Addr) (c1 c2 B1 B2 : Nat) (L : List Int) (bs : List Bool) (w : World) (h1 : Rd w B1 a1 (ints L)) (h2 : Rd w B2 a2 (bls bs)) (hB1 : B1 ≤ w.heap.size) (hB2 : B2 ≤ w.heap.size) (hl1 : L.length ≤ 4611686018427387904) (hl2 : bs.length ≤ 4611686018427387904) :
    Calls Try.prog 12 #[.agg #[.slice a1 L.length c1, .slice a2 bs.length c2]] w fun e w' => e = .returned (.bool (vmk L bs)) ∧ Below w.heap.size w w' := by
  have hA0 : Below w.heap.size w (w.alloc (.cells #[.slice a1 L.length c1, .slice a2 bs.length c2] 28)) := (Below.refl _ _).alloc (Nat.le_refl _) _
  have HC := Lib.hid (validMarked_any a1 a2 c1 c2 w.heap.size w.heap.size L bs _ ((h1.more hB1).below hA0) ((h2.more hB2).below hA0) (by simp) (by simp) hl1 hl2)
  go_enter Try.func12, Try.ntmps12
  go_wp2_with (go_at_call 38; refine HC.out.mono ?_; rintro e w1 ⟨rfl, hb1⟩)
  go_ret
  exact ⟨rfl, hA0.trans (hb1.mono (by simp))⟩
set_option maxHeartbeats 4000000 in
theorem sSplitMarked_any (a1 a2 : Option Addr) (c1 c2 B1 B2 : Nat) (L : List Int) (bs : List Bool) (w : World) (h1 : Rd w B1 a1 (ints L)) (h2 : Rd w B2 a2 (bls bs)) (hB1 : B1 ≤ w.heap.size) (hB2 : B2 ≤ w.heap.size) (hl1 : L.length ≤ 4611686018427387904) (hl2 : bs.length ≤ 4611686018427387904) :
    Calls Try.prog 20 #[.agg #[.slice a1 L.length c1, .slice a2 bs.length c2]] w fun e w' => ∃ aT cT aF cF, e = .returned (.tuple #[.slice aT (selF true L bs).length cT, .slice aF (selF false L bs).length cF]) ∧ Own w' w.heap.size w'.heap.size 3 (.slice aT (selF true L bs).length cT) (ints (selF true L bs)) ∧ Own w' w.heap.size w'.heap.size 3 (.slice aF (selF false L bs).length cF) (ints (selF false L bs)) ∧ Below w.heap.size w w' := by
  have hA0 : Below w.heap.size w (w.alloc (.cells #[.slice a1 L.length c1, .slice a2 bs.length c2] 28)) := (Below.refl _ _).alloc (Nat.le_refl _) _
  have hx0 := Blk.new w 28 #[.slice a1 L.length c1, .slice a2 bs.length c2]
  have HC := Lib.hid (validMarked_any a1 a2 c1 c2 w.heap.size w.heap.size L bs _ ((h1.more hB1).below hA0) ((h2.more hB2).below hA0) (by simp) (by simp) hl1 hl2)
  obtain ⟨i0, hi, hy0, hy1, hy2⟩ := T_int'
  have h1b := h1.more hB1
  have h2b := h2.more hB2
  obtain ⟨v, hv⟩ : ∃ v, v = vmk L bs := ⟨_, rfl⟩
  rw [← hv] at HC
  cases v with
  | false =>
    have HN1 := Lib.hid (selF_no (b := true) hv.symm)
    have HN2 := Lib.hid (selF_no (b := false) hv.symm)
    clear hv
    go_enter Try.func20, Try.ntmps20
    go_wp2_with (go_at_call 38; refine HC.out.mono ?_; rintro e w1 ⟨rfl, hb1⟩)
    go_ret2
    rw [HN1.out, HN2.out]
    exact ⟨none, 0, none, 0, rfl, Own.nil _ _ _, Own.nil _ _ _, hA0.trans (hb1.mono (by simp))⟩
  | true =>
    have hvm := vmk_iff.1 hv.symm
    have HY1 := Lib.hid (selF_yes (b := true) hv.symm)
    have HY2 := Lib.hid (selF_yes (b := false) hv.symm)
    have HLEN := Lib.hid hvm.2.1
    have hl16 := (valid_bd hvm.1).2.2.2
    have hb16 : bs.length ≤ 16 := by omega
    clear hv hvm
    go_enter Try.func20, Try.ntmps20
    go_wp2_with (go_at_call 38; refine HC.out.mono ?_; rintro e w1 ⟨rfl, hb1⟩)
    have hbe1 := hA0.trans (hb1.mono (by simp))
    have hx1 := hx0.below hb1 hx0.lt
    have hz1 := hb1.size
    rw [World.size_alloc] at hz1
    have hb2 : Below w1.heap.size w1 ((w1.alloc (.cells #[] 3)).alloc (.cells #[] 3)) := ((Below.refl _ _).alloc (Nat.le_refl _) _).alloc (by simp) _
    obtain ⟨lo0, hlo⟩ : ∃ lo0, lo0 = w1.heap.size := ⟨_, rfl⟩
    have he1 := own_empty1 (lo := lo0) w1 3 (by omega)
    have he2 := own_empty2 (lo := lo0) w1 3 (.cells #[] 3) (by omega)
    have HE1 := Lib.hid ((he1.alloc (.cells #[] 3)).more)
    have HE2 := Lib.hid he2.more
    have HLO := Lib.hid hlo
    rw [← hlo] at hz1
    clear hlo he1 he2 hx0 hA0
    go_loopw [4, 5, 6] (fun vT vF i wr => ∃ k : Nat, k ≤ L.length ∧ i = .int .i64 k ∧ Below lo0 w1 wr ∧ Own wr lo0 wr.heap.size 3 vT (ints (sel true L bs k)) ∧ Own wr lo0 wr.heap.size 3 vF (ints (sel false L bs k)) ∧ (∀ g, vT.ownBlock = some g → vF.ownBlock = some g → False)) (fun _ _ i _ => 20 - (intOf i).toNat)
    case atStart => exact ⟨0, Nat.zero_le _, rfl, by rw [HLO.out]; exact hb2, HE1.out, HE2.out, fun g hg hg2 => by simp [Value.ownBlock] at hg hg2; omega⟩
    case round =>
      clear hb2
      obtain ⟨k, hk, rfl, hbel, hoT, hoF, hap⟩ := hrel
      have HAP := Lib.hid hap
      have hlo0 : lo0 ≤ w1.heap.size := by rw [HLO.out]; exact Nat.le_refl _
      have hbs : lo0 ≤ wr.heap.size := by have := hbel.size; omega
      have hxr : Blk wr w.heap.size 28 #[.slice a1 L.length c1, .slice a2 bs.length c2] := hx1.below hbel (by omega)
      have q1 : wr.cell? ⟨w.heap.size, 0, none⟩ = some (.slice a1 L.length c1) := hxr.cell 0
      have q2 : wr.cell? ⟨w.heap.size, 1, none⟩ = some (.slice a2 bs.length c2) := hxr.cell 1
      have hbw : Below w.heap.size w wr := hbe1.trans (hbel.mono (by omega))
      clear hap hxr
      by_cases hlt : k < L.length
      · have hlt' : (k : Int) < (L.length : Int) := by omega
        have hkb : k < bs.length := by have := HLEN.out; omega
        have hkbi : (k : Int) < (bs.length : Int) := by omega
        obtain ⟨b1, o1, rfl, -, hc1⟩ := (h1b.below hbw).at_ hlt
        obtain ⟨b2, o2, rfl, -, hc2⟩ := boolRe (h2b.below hbw) hkb
        have HX : Hid (L.getD k 0 = L[k]) := Lib.hid (getD_lt hlt)
        have HMK0 : Hid (bs.getD k false = bs[k]) := Lib.hid (by rw [List.getD_eq_getElem?_getD, List.getElem?_eq_getElem hkb]; rfl)
        generalize L[k] = x at hc1 HX
        generalize bs[k] = m at hc2 HMK0
        have HMK : Hid (bs.getD k false = m) := Lib.hid HMK0.out
        clear HMK0 hbw
        cases m with
          | true =>
            have HS1 : Hid (sel true L bs (k + 1) = sel true L bs k ++ [x]) := Lib.hid (by rw [sel_succ, if_pos HMK.out, HX.out])
            have HS2 : Hid (sel false L bs (k + 1) = sel false L bs k) := Lib.hid (by rw [sel_succ, if_neg (by rw [HMK.out]; simp), List.append_nil])
            have HOT := Lib.hid hoT
            have HOF := Lib.hid hoF
            have hlv : (ints (sel true L bs k)).length ≤ 16 := by rw [List.length_map]; have := sel_len true L bs k; omega
            clear hoT hoF
            generalize hgs : ints (sel true L bs k) = A at HOT hlv
            have HGS := Lib.hid hgs
            clear hgs
            go_wp2_with (at_builtin; refine wpList_append_o _ rfl (.tmp 24) (.tmp 30) 22 rfl lo0 wr.heap.size 3 i0 (.int .i64 0) 8 Try.underlying22 hi hy0 hy1 hy2 rfl _ (A) rfl (HOT.out.alloc _) (wr.heap.size + 1) (some ⟨wr.heap.size, 0, none⟩) 1 1 [.int .i64 x] rfl (Rd.one wr _ _) rfl (by simp; rfl) (by unfold maxLen; omega) (by omega) (by simp; omega) ?_; intro v' w2 ho1 hg1 hat1)
            go_roundw
            case rel =>
              have hg2 : (wr.alloc (.cells #[.int .i64 x] 3)).grownBy w2 u4.ownBlock := hg1
              have hat2 : v'.ownBlock = u4.ownBlock ∨ v'.ownBlock = some (wr.alloc (.cells #[.int .i64 x] 3)).heap.size := hat1
              have hof : Own w2 lo0 w2.heap.size 3 u5 (ints (sel false L bs (k + 1))) := by
                rw [HS2.out]
                exact ((HOF.out.alloc (.cells #[.int .i64 x] 3)).grown hg2 (by
                  cases hb : Value.ownBlock u5 with
                  | none => exact .inl rfl
                  | some g => exact .inr fun e => HAP.out g e.symm hb)).more
              have hot : Own w2 lo0 w2.heap.size 3 v' (ints (sel true L bs (k + 1))) := by
                rw [HS1.out, ints, List.map_append, ← ints, HGS.out]
                exact ho1
              refine ⟨k + 1, by omega, by go_num, below_push hbel hlo0 hg1 HOT.out.base, hot, hof, fun g hgT hgF => ?_⟩
              rcases hat2 with e | e
              · rw [e] at hgT
                exact HAP.out g hgT hgF
              · rw [e] at hgT
                have h5 := HOF.out.lt g hgF
                simp at hgT
                omega
            case measure => simp [intOf] <;> omega
          | false =>
            have HS1 : Hid (sel false L bs (k + 1) = sel false L bs k ++ [x]) := Lib.hid (by rw [sel_succ, if_pos HMK.out, HX.out])
            have HS2 : Hid (sel true L bs (k + 1) = sel true L bs k) := Lib.hid (by rw [sel_succ, if_neg (by rw [HMK.out]; simp), List.append_nil])
            have HOT := Lib.hid hoF
            have HOF := Lib.hid hoT
            have hlv : (ints (sel false L bs k)).length ≤ 16 := by rw [List.length_map]; have := sel_len false L bs k; omega
            clear hoT hoF
            generalize hgs : ints (sel false L bs k) = A at HOT hlv
            have HGS := Lib.hid hgs
            clear hgs
            go_wp2_with (at_builtin; refine wpList_append_o _ rfl (.tmp 32) (.tmp 38) 22 rfl lo0 wr.heap.size 3 i0 (.int .i64 0) 8 Try.underlying22 hi hy0 hy1 hy2 rfl _ (A) rfl (HOT.out.alloc _) (wr.heap.size + 1) (some ⟨wr.heap.size, 0, none⟩) 1 1 [.int .i64 x] rfl (Rd.one wr _ _) rfl (by simp; rfl) (by unfold maxLen; omega) (by omega) (by simp; omega) ?_; intro v' w2 ho1 hg1 hat1)
            go_roundw
            case rel =>
              have hg2 : (wr.alloc (.cells #[.int .i64 x] 3)).grownBy w2 u5.ownBlock := hg1
              have hat2 : v'.ownBlock = u5.ownBlock ∨ v'.ownBlock = some (wr.alloc (.cells #[.int .i64 x] 3)).heap.size := hat1
              have hof : Own w2 lo0 w2.heap.size 3 u4 (ints (sel true L bs (k + 1))) := by
                rw [HS2.out]
                exact ((HOF.out.alloc (.cells #[.int .i64 x] 3)).grown hg2 (by
                  cases hb : Value.ownBlock u4 with
                  | none => exact .inl rfl
                  | some g => exact .inr fun e => HAP.out g hb e.symm)).more
              have hot : Own w2 lo0 w2.heap.size 3 v' (ints (sel false L bs (k + 1))) := by
                rw [HS1.out, ints, List.map_append, ← ints, HGS.out]
                exact ho1
              refine ⟨k + 1, by omega, by go_num, below_push hbel hlo0 hg1 HOT.out.base, hof, hot, fun g hgT hgF => ?_⟩
              rcases hat2 with e | e
              · rw [e] at hgF
                exact HAP.out g hgT hgF
              · rw [e] at hgF
                have h5 := HOF.out.lt g hgT
                simp at hgF
                omega
            case measure => simp [intOf] <;> omega
      · obtain rfl : k = L.length := by omega
        obtain ⟨aT, cT, rfl⟩ := hoT.form
        obtain ⟨aF, cF, rfl⟩ := hoF.form
        rw [List.length_map] at hoT hoF
        rw [List.length_map, List.length_map] at HAP
        have HOT := Lib.hid hoT
        have HOF := Lib.hid hoF
        simp only [List.length_map]
        clear hoT hoF
        go_wp2_with fail
        go_ret2
        rw [HY1.out, HY2.out]
        exact ⟨aT, cT, aF, cF, rfl, HOT.out.lower (by omega), HOF.out.lower (by omega), hbw⟩
end Go.Proofs.Ytbbbfaollcklkaa
namespace Go.Proofs.Ytbbbfaollcklkaa
open Go.RowKit
/-- nothing outside of the blocks from lo up to hi has changed -/
def Aside (lo hi : Nat) (w w' : World) : Prop := w.heap.size ≤ w'.heap.size ∧ ∀ g, (g < lo ∨ hi ≤ g) → g < w.heap.size → w'.heap[g]? = w.heap[g]?
theorem Aside.refl (lo hi : Nat) (w : World) : Aside lo hi w w := ⟨Nat.le_refl _, fun _ _ _ => rfl⟩
theorem Aside.grown {w w1 w2 : World} {lo hi : Nat} {e : TypeId} {v : Value} {vs : List Value} (h : Aside lo hi w w1) (ho : Own w1 lo hi e v vs) (hg : w1.grownBy w2 v.ownBlock) : Aside lo hi w w2 := by
  refine ⟨Nat.le_trans h.1 hg.size, fun g hgo hgl => ?_⟩
  rw [← h.2 g hgo hgl]
  refine hg.block g (Nat.lt_of_lt_of_le hgl h.1) (fun e => ?_)
  have h1 := ho.lt g e.symm
  have h2 := ho.base g e.symm
  omega
theorem Own.aside {w w' : World} {lo hi lox hix : Nat} {e : TypeId} {v : Value} {vs : List Value} (h : Own w lox hix e v vs) (ha : Aside lo hi w w') (hd : hix ≤ lo ∨ hi ≤ lox) : Own w' lox hix e v vs :=
  h.keep ha.1 fun g hg => ha.2 g (by have h1 := h.lt g hg; have h2 := h.base g hg; omega) (Nat.lt_of_lt_of_le (h.lt g hg) h.le)
theorem Own.wide {w : World} {lo hi lo' hi' : Nat} {e : TypeId} {v : Value} {vs : List Value} (h : Own w lo hi e v vs) (h1 : lo' ≤ lo) (h2 : hi ≤ hi') (h3 : hi' ≤ w.heap.size) : Own w lo' hi' e v vs :=
  ⟨(h.lower h1).row, fun g hg => Nat.lt_of_lt_of_le (h.lt g hg) h2, h3⟩
theorem Aside.alloc {w w1 : World} {lo hi : Nat} (h : Aside lo hi w w1) (o : Obj) : Aside lo hi w (w1.alloc o) :=
  ⟨Nat.le_trans h.1 (by simp), fun g hg hl => (Below.heap_alloc w1 o g (Nat.lt_of_lt_of_le hl h.1)).trans (h.2 g hg hl)⟩
theorem Aside.below {w w1 w2 : World} {lo hi : Nat} (h : Aside lo hi w w1) (hb : Below w.heap.size w1 w2) : Aside lo hi w w2 :=
  ⟨Nat.le_trans h.1 hb.size, fun g hg hl => (hb.block g hl).trans (h.2 g hg hl)⟩
theorem Aside.wide {w w1 : World} {lo hi lo' hi' : Nat} (h : Aside lo hi w w1) (h1 : lo' ≤ lo) (h2 : hi ≤ hi') : Aside lo' hi' w w1 :=
  ⟨h.1, fun g hg hl => h.2 g (by omega) hl⟩
end Go.Proofs.Ytbbbfaollcklkaa
namespace Go.Proofs.Ytbbbfaollcklkaa
open Go.RowKit NP
set_option maxRecDepth 100000
set_option linter.unusedVariables false
set_option linter.unusedSimpArgs false
theorem boolRd {w : World} {B : Nat} {a : Option Addr} {bs : List Bool} (h : Rd w B a (bls bs)) {k : Nat} (hk : k < bs.length) : ∃ b o, a = some ⟨b, o, none⟩ ∧ b < B ∧ w.cell? ⟨b, o + k, none⟩ = some (.bool bs[k]) := by
  obtain ⟨b, o, h1, h2, h3⟩ := h (fun e => by
    have h0 : bs.length = 0 := by simpa using congrArg List.length e
    omega)
  exact ⟨b, o, h1, h2, h3 k _ (by simp [hk])⟩
theorem Blk.rangeQQ {w : World} {g : Nat} {t : TypeId} {vs : List Value} (h : Blk w g t vs.toArray) : w.rangeAt g 0 vs := fun j v hv => by
  rw [Nat.zero_add, h.cell j]; simpa using hv
theorem Blk.aside {w w' : World} {g lo hi : Nat} {t : TypeId} {cs : Array Value} (h : Blk w g t cs) (ha : Aside lo hi w w') (hd : g < lo ∨ hi ≤ g) : Blk w' g t cs := (ha.2 g hd h.lt).trans h
theorem rd_bools {w : World} {x : Addr} {l c : Nat} {fB : Nat → Bool} (hl : l ≤ c) (hc : ∀ i, i < c → w.cell? (x.add i) = some (.bool (fB i))) : Rd w w.heap.size (some x) (bls ((List.range l).map fB)) := fun hne => by
  have h0 : 0 < l := by
    rcases Nat.eq_zero_or_pos l with h0 | h0
    · subst h0; simp at hne
    · exact h0
  obtain ⟨b, o, spot⟩ := x
  have hc0 := hc 0 (by omega)
  have hspot : spot = none := by simpa [Addr.add] using World.cell?_spot hc0
  subst hspot
  have hlt := World.block_lt_of_cell? _ _ hc0
  refine ⟨b, o, rfl, by simpa [Addr.add] using hlt, fun j v hv => ?_⟩
  have hj : j < l := by
    have := (List.getElem?_eq_some_iff.1 hv).1
    simpa using this
  have h1 := hc j (by omega)
  rw [Addr.add_lit] at h1
  rw [h1]
  simpa [hj] using hv
theorem fill_setB {L : List Bool} {k : Nat} (hk : k < L.length) : (bls (L.take k) ++ List.replicate (L.length - k) (Value.bool false)).set k (.bool L[k]) = bls (L.take (k + 1)) ++ List.replicate (L.length - (k + 1)) (Value.bool false) := by
  rw [List.set_append_right _ _ (by simp; omega), List.length_map, List.length_take, Nat.min_eq_left (by omega), Nat.sub_self, show L.length - k = (L.length - (k + 1)) + 1 by omega, List.replicate_succ, List.set_cons_zero, List.take_succ_eq_append_getElem hk, bls, bls, List.map_append, List.append_assoc]
  rfl
theorem T_boolB : (Try.prog.info? 4).map (fun i => (i.zero, i.size, i.bytes)) = some (some (.bool false), 1, 1) := by kernel_rfl
theorem toBoolS_any (a : Option Addr) (c B : Nat) (L : List Bool) (w : World) (h : Rd w B a (bls L)) (hB : B ≤ w.heap.size) (hl : L.length ≤ 1048576) :
    Calls Try.prog 39 #[.slice a L.length c] w fun e w' => ∃ a', e = .returned (.slice a' L.length L.length) ∧ Own w' w.heap.size w'.heap.size 4 (.slice a' L.length L.length) (bls L) ∧ Below w.heap.size w w' := by
  obtain ⟨i0, hi, hz0, hz1, hz2⟩ := info_parts T_boolB
  go_enter Try.func39, Try.ntmps39
  go_wp2_with (refine wpList_make_full _ rfl _ _ 23 rfl w.heap.size 4 i0 (.bool false) 1 Try.underlying23 hi hz0 hz1 .i64 .i64 _ _ L.length rfl rfl rfl rfl (by rw [hz2]; omega) (by unfold maxLen; omega) (by simp) ?_; intro w1 hown1 hg1; have hb1 : Below w.heap.size w w1 := (Below.refl _ _).grown hg1 (Nat.le_refl _) (by simp); have ho1 : Own w1 w.heap.size w1.heap.size 4 (.slice (some ⟨w.heap.size, 0, none⟩) L.length L.length) (List.replicate L.length (Value.bool false)) := ⟨by simpa [toList_madeCells_one, Value.cells] using hown1, fun g hg => (hown1.lt g hg).2, Nat.le_refl _⟩; clear hown1 hg1)
  go_loopw [4] (fun i wr => ∃ k : Nat, k ≤ L.length ∧ i = .int .i64 k ∧ Below w.heap.size w wr ∧ Own wr w.heap.size wr.heap.size 4 (.slice (some ⟨w.heap.size, 0, none⟩) L.length L.length) (bls (L.take k) ++ List.replicate (L.length - k) (Value.bool false))) (fun i _ => L.length - (intOf i).toNat)
  case atStart => exact ⟨0, Nat.zero_le _, rfl, hb1, by simpa using ho1⟩
  case round =>
    obtain ⟨k, hk, rfl, hbr, hor⟩ := hrel
    clear hb1 ho1
    by_cases hlt : k < L.length
    · obtain ⟨b1, o1, rfl, -, hc1⟩ := boolRd ((h.more hB).below hbr) hlt
      obtain ⟨g, u, e, hlo, hhi, hc2, hf2⟩ := hor.spot (k := k) (by simp; omega)
      obtain rfl : w.heap.size = g := by injection e with e; injection e
      clear e
      have HF := Lib.hid (fill_setB hlt)
      have HO := Lib.hid hor
      clear hor
      go_wp2
      go_roundw
      case rel =>
        refine ⟨k + 1, by omega, by go_num, hbr.setCell (by simp) _, ?_⟩
        have e := HO.out.set k (.bool L[k])
        rw [HF.out] at e
        exact ⟨e.row, fun g hg => by simpa [World.setCell] using e.lt g hg, Nat.le_refl _⟩
      case measure => simp [intOf]; omega
    · obtain rfl : k = L.length := by omega
      go_wp2
      go_ret
      exact ⟨_, rfl, by simpa using hor, hbr⟩
theorem eqBoolS_same (a b : Option Addr) (ca cb Ba Bb : Nat) (L : List Bool) (w : World) (h : Rd w Ba a (bls L)) (hm : Rd w Bb b (bls L)) (hl : L.length ≤ 4611686018427387904) :
    Calls Try.prog 41 #[.slice a L.length ca, .slice b L.length cb] w fun e w' => e = .returned (.bool true) ∧ Dr w w' := by
  have hne : ((L.length : Int) != (L.length : Int)) = false := by simp
  go_enter Try.func41, Try.ntmps41
  go_wp2
  clear hne
  go_loopw [5] (fun i wr => ∃ k : Nat, k ≤ L.length ∧ i = .int .i64 k ∧ Dr w wr) (fun i _ => L.length - (intOf i).toNat)
  case atStart => exact ⟨0, Nat.zero_le _, rfl, Dr.refl _⟩
  case round =>
    obtain ⟨k, hk, rfl, hdr⟩ := hrel
    by_cases hlt : k < L.length
    · obtain ⟨b1, o1, rfl, -, hc1⟩ := boolRd (h.dr hdr) hlt
      obtain ⟨b2, o2, rfl, -, hc2⟩ := boolRd (hm.dr hdr) hlt
      have hlt' : (k : Int) < (L.length : Int) := by omega
      generalize L[k] = x at *
      have hx' : (x != x) = false := by simp
      go_wp2_with fail
      go_quiet (fail)
      go_wp2
      go_roundw
      case rel => exact ⟨k + 1, by omega, by go_num, hdr.drewN _⟩
      case measure => simp [intOf]; omega
    · obtain rfl : k = L.length := by omega
      go_wp2
      go_ret
      exact ⟨rfl, hdr⟩
/-- the marks set from m on -/
def mkB (m : Int) (n : Nat) : List Bool := (List.range n).map fun (j : Nat) => ((m + (j : Int)) % 3 == 0)
theorem mkB_len (m : Int) (n : Nat) : (mkB m n).length = n := by simp [mkB]
theorem mkB_get (m : Int) (n j : Nat) (h : j < (mkB m n).length) : (mkB m n)[j] = ((m + (j : Int)) % 3 == 0) := by simp [mkB]
theorem markB_set {L : List Bool} {m : Int} {k : Nat} (hk : k < L.length) : (bls (mkB m k ++ L.drop k)).set k (.bool ((m + (k : Int)) % 3 == 0)) = bls (mkB m (k + 1) ++ L.drop (k + 1)) := by
  have e1 : (mkB m k).length = k := mkB_len m k
  rw [List.drop_eq_getElem_cons hk, bls, List.map_append, List.map_cons, List.set_append_right _ _ (by simp [e1]), List.length_map, e1, Nat.sub_self, List.set_cons_zero]
  simp [bls, mkB, List.range_succ]
theorem markBoolS_any (a : Option Addr) (c lo hi : Nat) (m : Int) (L : List Bool) (w : World) (h : Own w lo hi 4 (.slice a L.length c) (bls L)) (hm : 0 ≤ m) (hm2 : m ≤ 1099511627776) (hl : L.length ≤ 1099511627776) :
    Calls Try.prog 50 #[.slice a L.length c, .int .i64 m] w fun e w' => e = .returned (.int .i64 (m + (L.length : Int))) ∧ Own w' lo hi 4 (.slice a L.length c) (bls (mkB m L.length)) ∧ w.grownBy w' (Value.slice a L.length c).ownBlock := by
  go_enter Try.func50, Try.ntmps50
  go_wp2
  go_loopw [1, 5] (fun kk i wr => ∃ k : Nat, k ≤ L.length ∧ i = .int .i64 k ∧ kk = .int .i64 (m + (k : Int)) ∧ w.grownBy wr (Value.slice a L.length c).ownBlock ∧ Own wr lo hi 4 (.slice a L.length c) (bls (mkB m k ++ L.drop k))) (fun _ i _ => L.length - (intOf i).toNat)
  case atStart => exact ⟨0, Nat.zero_le _, rfl, by simp, World.grownBy.refl _ _, by simpa [mkB] using h⟩
  case round =>
    obtain ⟨k, hk, rfl, rfl, hbr, hor⟩ := hrel
    clear h
    by_cases hlt : k < L.length
    · obtain ⟨g, u, rfl, hlo, hhi, hc2, hf2⟩ := hor.spot (k := k) (by simp [mkB_len]; omega)
      have HF := Lib.hid (markB_set (m := m) hlt)
      have HO := Lib.hid hor
      have HR := Lib.hid hbr
      have hmk : 0 ≤ m + (k : Int) := by omega
      clear hor hbr
      go_wp2
      go_roundw
      case rel =>
        have e := HO.out.set k (.bool ((m + (k : Int)) % 3 == 0))
        have hbr := HR.out
        rw [HF.out] at e
        refine ⟨k + 1, by omega, by go_num, by go_num, ?_, e⟩
        exact ⟨hbr.os, hbr.tape, hbr.output, by simpa [World.setCell] using hbr.size, fun q hq hne => (Below.heap_setCell wr _ _ q (by rintro rfl; exact hne (by simp [Value.ownBlock]))).trans (hbr.block q hq hne)⟩
      case measure => simp [intOf]; omega
    · obtain rfl : k = L.length := by omega
      go_wp2
      go_ret
      exact ⟨rfl, by simpa using hor, hbr⟩
theorem heldBoolS_any (a : Option Addr) (c B n : Nat) (m : Int) (w : World) (h : Rd w B a (bls (mkB m n))) (hm : 0 ≤ m) (hm2 : m ≤ 1099511627776) (hl : n ≤ 1099511627776) :
    Calls Try.prog 58 #[.slice a n c, .int .i64 m] w fun e w' => e = .returned (.int .i64 (m + (n : Int))) ∧ w = w' := by
  have hn : (mkB m n).length = n := mkB_len m n
  have HN := Lib.hid hn
  clear hn
  go_enter Try.func58, Try.ntmps58
  go_wp2
  go_loop [1, 5] (fun kk i => ∃ k : Nat, k ≤ n ∧ i = .int .i64 k ∧ kk = .int .i64 (m + (k : Int))) (fun _ i => n - (intOf i).toNat)
  case atStart => exact ⟨0, Nat.zero_le _, rfl, by simp⟩
  case round =>
    obtain ⟨k, hk, rfl, rfl⟩ := hrel
    by_cases hlt : k < n
    · obtain ⟨b1, o1, rfl, -, hc1⟩ := boolRd h (k := k) (by rw [HN.out]; exact hlt)
      rw [mkB_get] at hc1
      have hmk : 0 ≤ m + (k : Int) := by omega
      have hbb : (((m + (k : Int)) % 3 == 0) != ((m + (k : Int)) % 3 == 0)) = false := by simp
      go_wp2
      go_round
      case rel => exact ⟨k + 1, by omega, by go_num, by go_num⟩
      case measure => simp [intOf]; omega
    · obtain rfl : k = n := by omega
      go_wp2
      go_ret
      exact ⟨rfl, rfl⟩
def szM (n m : Nat) : Int := if (1048576 : Int) - (n : Int) < 0 then -1 else if (1048576 : Int) - (n : Int) - (m : Int) < 0 then -1 else (1048576 : Int) - (n : Int) - (m : Int)
theorem szM_ok {n m : Nat} (h : 0 ≤ szM n m) : n + m ≤ 1048576 := by
  unfold szM at h
  split at h
  · omega
  · split at h <;> omega
theorem szIntS_b (a : Option Addr) (c n : Nat) (left : Int) (w : World) (hl : 0 ≤ left ∧ left ≤ 4611686018427387904) (hn : n ≤ 9223372036854775807) :
    Calls Try.prog 36 #[.slice a n c, .int .i64 left] w fun e w' => e = .returned (.int .i64 (if left - (n : Int) < 0 then -1 else left - (n : Int))) ∧ w = w' := by
  by_cases h : left - (n : Int) < 0
  · rw [if_pos h]
    go_enter Try.func36, Try.ntmps36
    go_wp2
    go_ret
    exact ⟨rfl, rfl⟩
  · rw [if_neg h]
    have h' : 0 ≤ left - (n : Int) := by omega
    go_enter Try.func36, Try.ntmps36
    go_wp2
    go_ret
    exact ⟨rfl, rfl⟩
theorem szBoolS_b (a : Option Addr) (c n : Nat) (left : Int) (w : World) (hl : 0 ≤ left ∧ left ≤ 4611686018427387904) (hn : n ≤ 9223372036854775807) :
    Calls Try.prog 37 #[.slice a n c, .int .i64 left] w fun e w' => e = .returned (.int .i64 (if left - (n : Int) < 0 then -1 else left - (n : Int))) ∧ w = w' := by
  by_cases h : left - (n : Int) < 0
  · rw [if_pos h]
    go_enter Try.func37, Try.ntmps37
    go_wp2
    go_ret
    exact ⟨rfl, rfl⟩
  · rw [if_neg h]
    have h' : 0 ≤ left - (n : Int) := by omega
    go_enter Try.func37, Try.ntmps37
    go_wp2
    go_ret
    exact ⟨rfl, rfl⟩
theorem szMarked_any (a1 a2 : Option Addr) (c1 c2 n m : Nat) (w : World) (hn : n ≤ 9223372036854775807) (hm : m ≤ 9223372036854775807) :
    Calls Try.prog 11 #[.agg #[.slice a1 n c1, .slice a2 m c2], .int .i64 1048576] w fun e w' => e = .returned (.int .i64 (szM n m)) ∧ Below w.heap.size w w' := by
  have hbe : Below w.heap.size w (w.alloc (.cells #[.slice a1 n c1, .slice a2 m c2] 25)) := (Below.refl _ _).alloc (Nat.le_refl _) _
  by_cases h : (1048576 : Int) - (n : Int) < 0
  · have HF : Hid (szM n m = -1) := Lib.hid (by unfold szM; rw [if_pos h])
    have HC := Lib.hid (fun w => szIntS_b a1 c1 n 1048576 w (by omega) hn)
    rw [if_pos h] at HC
    clear h
    go_enter Try.func11, Try.ntmps11
    go_wp2_with (go_at_call 36; refine (HC.out _).mono ?_; rintro e w1 ⟨rfl, rfl⟩)
    go_ret
    exact ⟨ret_i64 HF.out.symm, hbe⟩
  · have HC := Lib.hid (fun w => szIntS_b a1 c1 n 1048576 w (by omega) hn)
    rw [if_neg h] at HC
    obtain ⟨l, hl⟩ : ∃ l, l = (1048576 : Int) - (n : Int) := ⟨_, rfl⟩
    have hl0 : 0 ≤ l ∧ l ≤ 1048576 := by omega
    rw [← hl] at HC
    have HCB := Lib.hid (fun w => szBoolS_b a2 c2 m l w (by omega) hm)
    by_cases h2 : l - (m : Int) < 0
    · have HF : Hid (szM n m = -1) := Lib.hid (by unfold szM; rw [if_neg h, ← hl, if_pos h2])
      rw [if_pos h2] at HCB
      clear h h2 hl
      go_enter Try.func11, Try.ntmps11
      go_wp2_with (first
        | (go_at_call 36; refine (HC.out _).mono ?_; rintro e w1 ⟨rfl, rfl⟩)
        | (go_at_call 37; refine (HCB.out _).mono ?_; rintro e w1 ⟨rfl, rfl⟩))
      go_ret
      exact ⟨ret_i64 HF.out.symm, hbe⟩
    · have HF : Hid (szM n m = l - (m : Int)) := Lib.hid (by unfold szM; rw [if_neg h, ← hl, if_neg h2])
      rw [if_neg h2] at HCB
      have h2' : 0 ≤ l - (m : Int) := by omega
      clear h h2 hl
      go_enter Try.func11, Try.ntmps11
      go_wp2_with (first
        | (go_at_call 36; refine (HC.out _).mono ?_; rintro e w1 ⟨rfl, rfl⟩)
        | (go_at_call 37; refine (HCB.out _).mono ?_; rintro e w1 ⟨rfl, rfl⟩))
      go_ret
      exact ⟨ret_i64 HF.out.symm, hbe⟩
theorem T_mkL : (Try.prog.info? 28).map (·.size) = some 2 := by kernel_rfl
set_option maxHeartbeats 1000000 in
theorem toMarked_any (a1 a2 : Option Addr) (c1 c2 B1 B2 : Nat) (L : List Int) (bs : List Bool) (w : World) (h1 : Rd w B1 a1 (ints L)) (h2 : Rd w B2 a2 (bls bs)) (hB1 : B1 ≤ w.heap.size) (hB2 : B2 ≤ w.heap.size) (hl1 : L.length ≤ 1048576) (hl2 : bs.length ≤ 1048576) :
    Calls Try.prog 13 #[.agg #[.slice a1 L.length c1, .slice a2 bs.length c2]] w fun e w' => ∃ b1 b2 m, e = .returned (.agg #[.slice b1 L.length L.length, .slice b2 bs.length bs.length]) ∧ w.heap.size ≤ m ∧ m ≤ w'.heap.size ∧ Own w' w.heap.size m 3 (.slice b1 L.length L.length) (ints L) ∧ Own w' m w'.heap.size 4 (.slice b2 bs.length bs.length) (bls bs) ∧ Below w.heap.size w w' := by
  have hmu := Try.underlying28
  have hi2 : (Try.prog.info? 28).map (·.size) = some 2 := T_mkL
  have hA0 : Below w.heap.size w (((w.alloc (.cells #[.slice a1 L.length c1, .slice a2 bs.length c2] 25)).alloc (.cells #[.slice none 0 0, .slice none 0 0] 28)).alloc (.cells #[.slice none 0 0, .slice none 0 0] 28)) := (((Below.refl _ _).alloc (Nat.le_refl _) _).alloc (by simp) _).alloc (by simp; omega) _
  have hb0 := ((Blk.new w 25 #[.slice a1 L.length c1, .slice a2 bs.length c2]).alloc (.cells #[.slice none 0 0, .slice none 0 0] 28)).alloc (.cells #[.slice none 0 0, .slice none 0 0] 28)
  have hr0 : Blk (((w.alloc (.cells #[.slice a1 L.length c1, .slice a2 bs.length c2] 25)).alloc (.cells #[.slice none 0 0, .slice none 0 0] 28)).alloc (.cells #[.slice none 0 0, .slice none 0 0] 28)) (w.heap.size + 1) 28 #[.slice none 0 0, .slice none 0 0] := by
    have e := (Blk.new (w.alloc (.cells #[.slice a1 L.length c1, .slice a2 bs.length c2] 25)) 28 #[.slice none 0 0, .slice none 0 0]).alloc (.cells #[.slice none 0 0, .slice none 0 0] 28)
    rw [World.size_alloc] at e
    exact e
  have ho0 : Blk (((w.alloc (.cells #[.slice a1 L.length c1, .slice a2 bs.length c2] 25)).alloc (.cells #[.slice none 0 0, .slice none 0 0] 28)).alloc (.cells #[.slice none 0 0, .slice none 0 0] 28)) (w.heap.size + 2) 28 #[.slice none 0 0, .slice none 0 0] := by
    have e := Blk.new ((w.alloc (.cells #[.slice a1 L.length c1, .slice a2 bs.length c2] 25)).alloc (.cells #[.slice none 0 0, .slice none 0 0] 28)) 28 #[.slice none 0 0, .slice none 0 0]
    rw [World.size_alloc, World.size_alloc] at e
    exact e
  obtain ⟨W, hW⟩ : ∃ W, ((w.alloc (.cells #[.slice a1 L.length c1, .slice a2 bs.length c2] 25)).alloc (.cells #[.slice none 0 0, .slice none 0 0] 28)).alloc (.cells #[.slice none 0 0, .slice none 0 0] 28) = W := ⟨_, rfl⟩
  have hWs : w.heap.size + 3 = W.heap.size := by rw [← hW]; simp
  rw [hW] at hA0 hb0 hr0 ho0
  have HWS := Lib.hid hWs
  have hm1 : W.cell? ⟨w.heap.size, 0, none⟩ = some (.slice a1 L.length c1) := hb0.cell 0
  have hR1 := (h1.more hB1).below hA0
  have h2b := h2
  have hws : w.heap.size ≤ W.heap.size := by omega
  clear hWs h1 h2
  go_enter Try.func13, Try.ntmps13
  go_wp2_with (first
    | (go_at_call 30; refine (toIntS_any a1 c1 w.heap.size L W hR1 hws hl1).mono ?_; rintro e w1 ⟨b1, rfl, ho1, hb1⟩; have hz1 := hb1.size; have hr1 := hr0.below hb1 hr0.lt; have hq1 := ho0.below hb1 ho0.lt; have hx1 := hb0.below hb1 hb0.lt; have hm2 : w1.cell? ⟨w.heap.size, 1, none⟩ = some (.slice a2 bs.length c2) := hx1.cell 1; have hc1 : w1.cell? ⟨w.heap.size + 2, 0, none⟩ = some (.slice none 0 0) := hq1.cell 0; have hf1 : w1.frozen? ⟨w.heap.size + 2, 0, none⟩ = false := hq1.free 0; have HO1 := Lib.hid ho1; clear ho1)
    | (go_at_call 39; generalize hw2 : w1.setCell _ _ = w2; have hq2 : Blk w2 (w.heap.size + 2) 28 #[.slice b1 L.length L.length, .slice none 0 0] := hw2 ▸ hq1.set 0 (.slice b1 L.length L.length); have hr2 : Blk w2 (w.heap.size + 1) 28 #[.slice none 0 0, .slice none 0 0] := hw2 ▸ hr1.off (show w.heap.size + 1 ≠ w.heap.size + 2 by omega) _; have hbe2 : Below w.heap.size w w2 := hw2 ▸ (hA0.trans (hb1.mono hws)).setCell (show w.heap.size ≤ w.heap.size + 2 by omega) _; have hz2 : w2.heap.size = w1.heap.size := (by rw [← hw2]; simp [World.setCell]); (have ho2 : Own w2 W.heap.size w1.heap.size 3 (.slice b1 L.length L.length) (ints L) := hw2 ▸ HO1.out.keep (by simp [World.setCell]) (fun g hg => Below.heap_setCell _ _ _ g (by have h1 := HO1.out.base g hg; have h2 := HWS.out; show g ≠ w.heap.size + 2; omega))); have HO2 := Lib.hid ho2; clear ho2 hw2; refine (toBoolS_any a2 c2 w.heap.size bs w2 ((h2b.more hB2).below hbe2) hbe2.size hl2).mono ?_; rintro e w3 ⟨b2, rfl, ho3, hb3⟩; have HO3 := Lib.hid ho3; have hq3 := hq2.below hb3 hq2.lt; have hr3 := hr2.below hb3 hr2.lt; have hz3 := hb3.size; have hc3 : w3.cell? ⟨w.heap.size + 2, 1, none⟩ = some (.slice none 0 0) := hq3.cell 1; have hf3 : w3.frozen? ⟨w.heap.size + 2, 1, none⟩ = false := hq3.free 1; have hq4 : Blk (w3.setCell ⟨w.heap.size + 2, 1, none⟩ (.slice b2 bs.length bs.length)) (w.heap.size + 2) 28 #[.slice b1 L.length L.length, .slice b2 bs.length bs.length] := hq3.set 1 (.slice b2 bs.length bs.length); have hr4 : Blk (w3.setCell ⟨w.heap.size + 2, 1, none⟩ (.slice b2 bs.length bs.length)) (w.heap.size + 1) 28 #[.slice none 0 0, .slice none 0 0] := hr3.off (show w.heap.size + 1 ≠ w.heap.size + 2 by omega) _; clear ho3)
    | (refine wpList_load_row rfl 28 (.tmp 3) rfl (w.heap.size + 2) rfl 28 #[.slice b1 L.length L.length, .slice b2 bs.length bs.length] (0, 0) _ hq4 hmu rfl hi2 ?_)
    | (refine wpList_store_row rfl 28 (.tmp 2) (.tmp 12) rfl (w.heap.size + 1) rfl #[.slice b1 L.length L.length, .slice b2 bs.length bs.length] rfl 28 _ hr4 hi2 rfl (by simp [Value.oneCell']) ?_))
  refine bodyPost_ret (results_cell_row rfl _ _ (w.heap.size + 1) 28 #[.slice b1 L.length L.length, .slice b2 bs.length bs.length] (0, 0) _ rfl hr4.row hmu rfl hi2) rfl ?_
  have hW9 := HWS.out
  have hb4 : Below w.heap.size w (w3.setCell ⟨w.heap.size + 2, 1, none⟩ (.slice b2 bs.length bs.length)) := (hbe2.trans (hb3.mono hbe2.size)).setCell (show w.heap.size ≤ w.heap.size + 2 by omega) _
  have hb5 := below_setRow' hb4 (show w.heap.size ≤ w.heap.size + 1 by omega) #[.slice b1 L.length L.length, .slice b2 bs.length bs.length]
  refine ⟨b1, b2, w1.heap.size, rfl, by omega, by simpa [World.setCell] using (show w1.heap.size ≤ w3.heap.size by omega), ?_, ?_, hb5⟩
  · refine ((HO2.out.below (hb3.mono (by omega))).keep (by simp [World.setCell]) (fun g hg => ?_)).lower hws
    have h1 := HO1.out.base g hg
    exact (setRow_other _ _ _ _ (by omega)).trans (Below.heap_setCell _ _ _ g (show g ≠ w.heap.size + 2 by omega))
  · have e := HO3.out.keep (w' := (w3.setCell ⟨w.heap.size + 2, 1, none⟩ (.slice b2 bs.length bs.length)).setRow (w.heap.size + 1) #[.slice b1 L.length L.length, .slice b2 bs.length bs.length]) (by simp [World.setCell]) (fun g hg => by
      have h1 := HO3.out.base g hg
      exact (setRow_other _ _ _ _ (by omega)).trans (Below.heap_setCell _ _ _ g (show g ≠ w.heap.size + 2 by omega)))
    rw [hz2] at e
    simpa [World.setCell] using e
set_option maxHeartbeats 1000000 in
theorem eqMarked_same (a1 a2 b1 b2 : Option Addr) (ca1 ca2 cb1 cb2 A1 A2 B1 B2 : Nat) (L : List Int) (bs : List Bool) (w : World) (h1 : Rd w A1 a1 (ints L)) (h2 : Rd w A2 a2 (bls bs)) (k1 : Rd w B1 b1 (ints L)) (k2 : Rd w B2 b2 (bls bs)) (hA1 : A1 ≤ w.heap.size) (hA2 : A2 ≤ w.heap.size) (hB1 : B1 ≤ w.heap.size) (hB2 : B2 ≤ w.heap.size) (hl1 : L.length ≤ 4611686018427387904) (hl2 : bs.length ≤ 4611686018427387904) :
    Calls Try.prog 15 #[.agg #[.slice a1 L.length ca1, .slice a2 bs.length ca2], .agg #[.slice b1 L.length cb1, .slice b2 bs.length cb2]] w fun e w' => e = .returned (.bool true) ∧ Below w.heap.size w w' := by
  have hA0 : Below w.heap.size w ((w.alloc (.cells #[.slice a1 L.length ca1, .slice a2 bs.length ca2] 28)).alloc (.cells #[.slice b1 L.length cb1, .slice b2 bs.length cb2] 28)) := ((Below.refl _ _).alloc (Nat.le_refl _) _).alloc (by simp) _
  have hx0 := (Blk.new w 28 #[.slice a1 L.length ca1, .slice a2 bs.length ca2]).alloc (.cells #[.slice b1 L.length cb1, .slice b2 bs.length cb2] 28)
  have hy0 := Blk.new (w.alloc (.cells #[.slice a1 L.length ca1, .slice a2 bs.length ca2] 28)) 28 #[.slice b1 L.length cb1, .slice b2 bs.length cb2]
  rw [World.size_alloc] at hy0
  obtain ⟨W, hW⟩ : ∃ W, (w.alloc (.cells #[.slice a1 L.length ca1, .slice a2 bs.length ca2] 28)).alloc (.cells #[.slice b1 L.length cb1, .slice b2 bs.length cb2] 28) = W := ⟨_, rfl⟩
  rw [hW] at hA0 hx0 hy0
  have m1 : W.cell? ⟨w.heap.size, 0, none⟩ = some (.slice a1 L.length ca1) := hx0.cell 0
  have m2 : W.cell? ⟨w.heap.size, 1, none⟩ = some (.slice a2 bs.length ca2) := hx0.cell 1
  have m3 : W.cell? ⟨w.heap.size + 1, 0, none⟩ = some (.slice b1 L.length cb1) := hy0.cell 0
  have m4 : W.cell? ⟨w.heap.size + 1, 1, none⟩ = some (.slice b2 bs.length cb2) := hy0.cell 1
  have H1 := Lib.hid ((h1.more hA1).below hA0)
  have K1 := Lib.hid ((k1.more hB1).below hA0)
  have H2 := Lib.hid ((h2.more hA2).below hA0)
  have K2 := Lib.hid ((k2.more hB2).below hA0)
  clear h1 h2 k1 k2 hx0 hy0
  go_enter Try.func15, Try.ntmps15
  go_wp2_with (first
    | (go_at_call 21; refine (eqIntS_same a1 b1 ca1 cb1 _ _ L W H1.out K1.out hl1).mono ?_; rintro e w1 ⟨rfl, n1, rfl⟩)
    | (go_at_call 41; refine (eqBoolS_same a2 b2 ca2 cb2 _ _ bs _ (H2.out.dr (Dr.n W n1)) (K2.out.dr (Dr.n W n1)) hl2).mono ?_; rintro e w2 ⟨rfl, hd2⟩))
  go_ret
  exact ⟨rfl, (hA0.trans ((Dr.n W n1).below _)).trans (hd2.below _)⟩
set_option maxHeartbeats 1000000 in
theorem markMarked_any (a1 a2 : Option Addr) (c1 c2 lo hi lo1 hi1 lo2 hi2 : Nat) (m : Int) (L : List Int) (bs : List Bool) (w : World) (h1 : Own w lo1 hi1 3 (.slice a1 L.length c1) (ints L)) (h2 : Own w lo2 hi2 4 (.slice a2 bs.length c2) (bls bs)) (hd : hi1 ≤ lo2 ∨ hi2 ≤ lo1) (g1 : lo ≤ lo1) (g2 : lo ≤ lo2) (g3 : hi1 ≤ hi) (g4 : hi2 ≤ hi) (g5 : hi ≤ w.heap.size) (g6 : lo ≤ hi) (hm : 0 ≤ m) (hm2 : m ≤ 1073741824) (hl1 : L.length ≤ 1073741824) (hl2 : bs.length ≤ 1073741824) :
    Calls Try.prog 22 #[.agg #[.slice a1 L.length c1, .slice a2 bs.length c2], .int .i64 m] w fun e w' => e = .returned (.int .i64 (m + (L.length : Int) + (bs.length : Int))) ∧ Own w' lo1 hi1 3 (.slice a1 L.length c1) (ints (marks m L.length)) ∧ Own w' lo2 hi2 4 (.slice a2 bs.length c2) (bls (mkB (m + (L.length : Int)) bs.length)) ∧ Below lo w w' ∧ Aside lo hi w w' := by
  have hlh : lo ≤ w.heap.size := Nat.le_trans g6 g5
  have hA0 : Aside lo hi w (w.alloc (.cells #[.slice a1 L.length c1, .slice a2 bs.length c2] 28)) := (Aside.refl lo hi w).alloc _
  have hB0 : Below lo w (w.alloc (.cells #[.slice a1 L.length c1, .slice a2 bs.length c2] 28)) := (Below.refl _ _).alloc hlh _
  have hx0 := Blk.new w 28 #[.slice a1 L.length c1, .slice a2 bs.length c2]
  have o1 := h1.alloc (.cells #[.slice a1 L.length c1, .slice a2 bs.length c2] 28)
  have o2 := h2.alloc (.cells #[.slice a1 L.length c1, .slice a2 bs.length c2] 28)
  have hh1 := h1.le
  have hh2 := h2.le
  obtain ⟨W, hW⟩ : ∃ W, w.alloc (.cells #[.slice a1 L.length c1, .slice a2 bs.length c2] 28) = W := ⟨_, rfl⟩
  rw [hW] at hA0 hB0 hx0 o1 o2
  have m1 : W.cell? ⟨w.heap.size, 0, none⟩ = some (.slice a1 L.length c1) := hx0.cell 0
  have O1 := Lib.hid o1
  have O2 := Lib.hid o2
  clear h1 h2 o1 o2
  go_enter Try.func22, Try.ntmps22
  go_wp2_with (first
    | (go_at_call 23; (refine (markIntS_any a1 c1 lo1 hi1 m L W O1.out hm (by omega) (by omega)).mono ?_; rintro e w1 ⟨rfl, p1, hg1⟩; have P1 := Lib.hid p1; have hx1 : Blk w1 w.heap.size 28 #[.slice a1 L.length c1, .slice a2 bs.length c2] := hx0.grown hg1 (fun e => by have := O1.out.lt _ e.symm; omega); have m2 : w1.cell? ⟨w.heap.size, 1, none⟩ = some (.slice a2 bs.length c2) := hx1.cell 1; have P2 := Lib.hid (O2.out.grown hg1 (by cases hb : Value.ownBlock (.slice a2 bs.length c2) with | none => exact .inl rfl | some g => exact .inr fun e => by have q1 := O1.out.lt g e.symm; have q2 := O1.out.base g e.symm; have q3 := O2.out.lt g hb; have q4 := O2.out.base g hb; omega)); have hA1 := hA0.grown (O1.out.wide g1 g3 (by have := hA0.1; omega)) hg1; have hB1 := hB0.grown hg1 (Nat.le_trans hlh hA0.1) (fun g hg => Nat.le_trans g1 (O1.out.base g hg)); clear p1 hg1))
    | (go_at_call 50; refine (markBoolS_any a2 c2 lo2 hi2 (m + (L.length : Int)) bs w1 P2.out (by omega) (by omega) (by omega)).mono ?_; rintro e w2 ⟨rfl, p2, hg2⟩; have Q2 := Lib.hid p2; have Q1 := Lib.hid (P1.out.grown hg2 (by cases hb : Value.ownBlock (.slice a1 L.length c1) with | none => exact .inl rfl | some g => exact .inr fun e => by have q1 := P2.out.lt g e.symm; have q2 := P2.out.base g e.symm; have q3 := P1.out.lt g hb; have q4 := P1.out.base g hb; omega)); have hA2 := hA1.grown (P2.out.wide g2 g4 (by have := hA1.1; omega)) hg2; have hB2 := hB1.grown hg2 (Nat.le_trans hlh hA1.1) (fun g hg => Nat.le_trans g2 (P2.out.base g hg)); clear p2 hg2))
  go_ret
  exact ⟨rfl, Q1.out, Q2.out, hB2, hA2⟩
set_option maxHeartbeats 1000000 in
theorem heldMarked_any (a1 a2 : Option Addr) (c1 c2 B1 B2 n1 n2 : Nat) (m : Int) (w : World) (h1 : Rd w B1 a1 (ints (marks m n1))) (h2 : Rd w B2 a2 (bls (mkB (m + (n1 : Int)) n2))) (hB1 : B1 ≤ w.heap.size) (hB2 : B2 ≤ w.heap.size) (hm : 0 ≤ m) (hm2 : m ≤ 1073741824) (hl1 : n1 ≤ 1073741824) (hl2 : n2 ≤ 1073741824) :
    Calls Try.prog 31 #[.agg #[.slice a1 n1 c1, .slice a2 n2 c2], .int .i64 m] w fun e w' => e = .returned (.int .i64 (m + (n1 : Int) + (n2 : Int))) ∧ Below w.heap.size w w' := by
  have hA0 : Below w.heap.size w (w.alloc (.cells #[.slice a1 n1 c1, .slice a2 n2 c2] 28)) := (Below.refl _ _).alloc (Nat.le_refl _) _
  have H1 := Lib.hid ((h1.more hB1).below hA0)
  have H2 := Lib.hid ((h2.more hB2).below hA0)
  have d1 : 0 ≤ m + (n1 : Int) := by omega
  have d2 : 0 ≤ m + (n1 : Int) + (n2 : Int) := by omega
  clear h1 h2
  go_enter Try.func31, Try.ntmps31
  go_wp2_with (first
    | (go_at_call 24; refine (heldIntS_any a1 c1 _ n1 m _ H1.out hm (by omega) (by omega)).mono ?_; rintro e w1 ⟨rfl, rfl⟩)
    | (go_at_call 58; refine (heldBoolS_any a2 c2 _ n2 (m + (n1 : Int)) _ H2.out (by omega) (by omega) (by omega)).mono ?_; rintro e w1 ⟨rfl, rfl⟩))
  go_ret
  exact ⟨rfl, hA0⟩
end Go.Proofs.Ytbbbfaollcklkaa
