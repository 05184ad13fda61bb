/-
  Walks of the program: ValidPile, PileSum, TurnPile, LayersOf, IsEvenPile.
-/
import Derived.Test.YtnheolhgdinjgaaW87
import Derived.Test.YtnheolhgdinjgaaW88
import Derived.Test.YtnheolhgdinjgaaW91
import Derived.Test.YtnheolhgdinjgaaArr4
import Derived.RegionTactic
import Derived.Deep.RegionHeld3
import Derived.Deep.MidRow
namespace Go.Proofs.Ytnheolhgdinjgaa
open Go.RowKit NP
set_option maxRecDepth 100000
set_option linter.unusedVariables false
set_option linter.unusedSimpArgs false
theorem gridV_yes {LL : List (List Int)} (h : vpl LL = true) : gridV LL = gridR LL := by unfold gridV; rw [h]; rfl
theorem iValidPile_any (a : Option Addr) (c B : Nat) (LL : List (List Int)) (w : World) (h : RdLL w B a LL) (hB : B ≤ w.heap.size) (hn : LL.length ≤ 4611686018427387904) (hil : ∀ L ∈ LL, L.length ≤ 4611686018427387904) :
    Calls Try.prog 16 #[.slice a LL.length c] w fun e w' => e = .returned (.bool (vpl LL)) ∧ Below w.heap.size w w' := by
  have HIL := Lib.hid hil
  clear hil
  have hi2 : (Try.prog.info? 38).map (·.size) = some (arr (gridV LL).flatten).size := by rw [arr_size, sq_len ⟨gridV_len LL, gridV_rows LL⟩]; exact T_info256
  have hszv : (arr (gridV LL).flatten).size = (arr zsq.flatten).size := by rw [arr_size, arr_size, sq_len ⟨gridV_len LL, gridV_rows LL⟩]; rfl
  have HPO := Lib.hid (fun w h hB => pileOf_any a c B LL w h hB hn HIL.out)
  obtain ⟨v, hv⟩ : ∃ v, v = vpl LL := ⟨_, rfl⟩
  rw [← hv] at HPO
  rw [← hv]
  obtain ⟨G, hG⟩ : ∃ G, G = arr (gridV LL).flatten := ⟨_, rfl⟩
  have hone : ∀ v ∈ G.toList, v.oneCell' = true := by rw [hG]; exact arr_one _
  rw [← hG] at hi2 hszv HPO
  clear hG hv
  go_enter Try.func16, Try.ntmps16
  go_wp2_with (first
    | (go_at_call 38; refine (HPO.out _ h hB).mono ?_; rintro e w1 ⟨rfl, hb1⟩; have hbz := Blk.new w1 38 (arr zsq.flatten))
    | (refine wpList_store_row rfl 38 (.tmp 3) (.tmp 8) rfl w1.heap.size rfl G rfl 38 _ hbz hi2 hszv hone ?_))
  have hbb : Below w1.heap.size w1 ((w1.alloc (.cells (arr zsq.flatten) 38)).setRow w1.heap.size G) := below_setRow' ((Below.refl _ _).alloc (Nat.le_refl _) _) (Nat.le_refl _) _
  go_ret
  exact ⟨rfl, hb1.trans (hbb.mono hb1.size)⟩
set_option maxHeartbeats 1000000 in
theorem iPileSum_any (a : Option Addr) (c B : Nat) (LL : List (List Int)) (w : World) (h : RdLL w B a LL) (hB : B ≤ w.heap.size) (hn : LL.length ≤ 4611686018427387904) (hil : ∀ L ∈ LL, L.length ≤ 4611686018427387904) :
    Calls Try.prog 21 #[.slice a LL.length c] w fun e w' => e = .returned (.int .i64 (psF LL)) ∧ Below w.heap.size w w' := by
  have HIL := Lib.hid hil
  clear hil
  have hi2 : (Try.prog.info? 38).map (·.size) = some (arr (gridV LL).flatten).size := by rw [arr_size, sq_len ⟨gridV_len LL, gridV_rows LL⟩]; exact T_info256
  have hszv : (arr (gridV LL).flatten).size = (arr zsq.flatten).size := by rw [arr_size, arr_size, sq_len ⟨gridV_len LL, gridV_rows LL⟩]; rfl
  have HPO := Lib.hid (fun w h hB => pileOf_any a c B LL w h hB hn HIL.out)
  obtain ⟨v, hv⟩ : ∃ v, v = vpl LL := ⟨_, rfl⟩
  rw [← hv] at HPO
  obtain ⟨G, hG⟩ : ∃ G, G = arr (gridV LL).flatten := ⟨_, rfl⟩
  have hone : ∀ v ∈ G.toList, v.oneCell' = true := by rw [hG]; exact arr_one _
  rw [← hG] at hi2 hszv HPO
  have HG := Lib.hid hG
  clear hG
  cases v with
  | false =>
    have HN := Lib.hid (psF_no hv.symm)
    clear hv
    go_enter Try.func21, Try.ntmps21
    go_wp2_with (first
      | (go_at_call 38; refine (HPO.out _ h hB).mono ?_; rintro e w1 ⟨rfl, hb1⟩; have hbz := Blk.new w1 38 (arr zsq.flatten))
      | (refine wpList_store_row rfl 38 (.tmp 3) (.tmp 8) rfl w1.heap.size rfl G rfl 38 _ hbz hi2 hszv hone ?_))
    have hbb : Below w1.heap.size w1 ((w1.alloc (.cells (arr zsq.flatten) 38)).setRow w1.heap.size G) := below_setRow' ((Below.refl _ _).alloc (Nat.le_refl _) _) (Nat.le_refl _) _
    go_ret
    rw [HN.out]
    exact ⟨rfl, hb1.trans (hbb.mono hb1.size)⟩
  | true =>
    have hvl := hv.symm
    have HY := Lib.hid (psF_yes hvl)
    have HGR : Hid (G = arr (gridR LL).flatten) := Lib.hid (by rw [HG.out, gridV_yes hvl])
    have HV := Lib.hid hvl
    clear hv hvl
    go_enter Try.func21, Try.ntmps21
    go_wp2_with (first
      | (go_at_call 38; refine (HPO.out _ h hB).mono ?_; rintro e w1 ⟨rfl, hb1⟩; have hbz := Blk.new w1 38 (arr zsq.flatten); have hbz2 := hbz.row (vs := G))
      | (refine wpList_store_row rfl 38 (.tmp 3) (.tmp 8) rfl w1.heap.size rfl G rfl 38 _ hbz hi2 hszv hone ?_)
      | (refine wpList_load_row rfl 38 (.tmp 3) rfl w1.heap.size rfl 38 G (0, 0) _ hbz2 Try.underlying38 rfl hi2 ?_)
      | (go_at_call 45; rw [HGR.out]; refine (psum_any LL HV.out _).mono ?_; rintro e w2 ⟨rfl, hb2⟩))
    have hbb : Below w1.heap.size w1 ((w1.alloc (.cells (arr zsq.flatten) 38)).setRow w1.heap.size G) := below_setRow' ((Below.refl _ _).alloc (Nat.le_refl _) _) (Nat.le_refl _) _
    have hbt := hb1.trans (hbb.mono hb1.size)
    go_ret
    rw [HY.out]
    exact ⟨rfl, by rw [← HGR.out] at hb2; exact hbt.trans (hb2.mono hbt.size)⟩
set_option maxHeartbeats 1000000 in
theorem iTurnPile_any (a : Option Addr) (c B : Nat) (LL : List (List Int)) (w : World) (h : RdLL w B a LL) (hB : B ≤ w.heap.size) (hn : LL.length ≤ 4611686018427387904) (hil : ∀ L ∈ LL, L.length ≤ 4611686018427387904) :
    Calls Try.prog 19 #[.slice a LL.length c] w fun e w' => ∃ a' c' us, e = .returned (.slice a' (tpF LL).length c') ∧ OwnLL w' w.heap.size w'.heap.size 31 3 (.slice a' (tpF LL).length c') us (tpF LL) ∧ Below w.heap.size w w' := by
  have HIL := Lib.hid hil
  clear hil
  have hi2 : (Try.prog.info? 38).map (·.size) = some (arr (gridV LL).flatten).size := by rw [arr_size, sq_len ⟨gridV_len LL, gridV_rows LL⟩]; exact T_info256
  have hszv : (arr (gridV LL).flatten).size = (arr zsq.flatten).size := by rw [arr_size, arr_size, sq_len ⟨gridV_len LL, gridV_rows LL⟩]; rfl
  have HPO := Lib.hid (fun w h hB => pileOf_any a c B LL w h hB hn HIL.out)
  obtain ⟨v, hv⟩ : ∃ v, v = vpl LL := ⟨_, rfl⟩
  rw [← hv] at HPO
  obtain ⟨G, hG⟩ : ∃ G, G = arr (gridV LL).flatten := ⟨_, rfl⟩
  have hone : ∀ v ∈ G.toList, v.oneCell' = true := by rw [hG]; exact arr_one _
  rw [← hG] at hi2 hszv HPO
  have HG := Lib.hid hG
  clear hG
  cases v with
  | false =>
    have HN := Lib.hid (tpF_no hv.symm)
    clear hv
    go_enter Try.func19, Try.ntmps19
    go_wp2_with (first
      | (go_at_call 38; refine (HPO.out _ h hB).mono ?_; rintro e w1 ⟨rfl, hb1⟩; have hbz := Blk.new w1 38 (arr zsq.flatten))
      | (refine wpList_store_row rfl 38 (.tmp 3) (.tmp 8) rfl w1.heap.size rfl G rfl 38 _ hbz hi2 hszv hone ?_))
    have hbb : Below w1.heap.size w1 ((w1.alloc (.cells (arr zsq.flatten) 38)).setRow w1.heap.size G) := below_setRow' ((Below.refl _ _).alloc (Nat.le_refl _) _) (Nat.le_refl _) _
    go_ret
    rw [HN.out]
    exact ⟨none, 0, [], rfl, OwnLL.nil _ _ _ _, hb1.trans (hbb.mono hb1.size)⟩
  | true =>
    have hvl := hv.symm
    have HY := Lib.hid (tpF_yes hvl)
    have HGR : Hid (G = arr (gridR LL).flatten) := Lib.hid (by rw [HG.out, gridV_yes hvl])
    have HV := Lib.hid hvl
    clear hv hvl
    go_enter Try.func19, Try.ntmps19
    go_wp2_with (first
      | (go_at_call 38; refine (HPO.out _ h hB).mono ?_; rintro e w1 ⟨rfl, hb1⟩; have hbz := Blk.new w1 38 (arr zsq.flatten); have hbz2 := hbz.row (vs := G))
      | (refine wpList_store_row rfl 38 (.tmp 3) (.tmp 8) rfl w1.heap.size rfl G rfl 38 _ hbz hi2 hszv hone ?_)
      | (refine wpList_load_row rfl 38 (.tmp 3) rfl w1.heap.size rfl 38 G (0, 0) _ hbz2 Try.underlying38 rfl hi2 ?_)
      | (go_at_call 42; rw [HGR.out]; refine (pturned_any LL HV.out _).mono ?_; rintro e w2 ⟨rfl, hb2⟩)
      | (go_at_call 43; refine (plist_any (turnP LL) (vpl_turn HV.out) _).mono ?_; rintro e w3 ⟨a3, c3, us, rfl, ho3, hb3⟩; have HO3 := Lib.hid ho3; clear ho3))
    have hbb : Below w1.heap.size w1 ((w1.alloc (.cells (arr zsq.flatten) 38)).setRow w1.heap.size G) := below_setRow' ((Below.refl _ _).alloc (Nat.le_refl _) _) (Nat.le_refl _) _
    have hbt := hb1.trans (hbb.mono hb1.size)
    go_ret
    rw [HY.out]
    exact ⟨a3, c3, us, rfl, HO3.out.lower (by rw [← HGR.out] at hb2; have := (hbt.trans (hb2.mono hbt.size)).size; omega), by rw [← HGR.out] at hb2; have hbu := hbt.trans (hb2.mono hbt.size); exact hbu.trans (hb3.mono hbu.size)⟩
set_option maxHeartbeats 1000000 in
theorem iLayersOf_any (a : Option Addr) (c B : Nat) (LL : List (List Int)) (w : World) (h : RdLL w B a LL) (hB : B ≤ w.heap.size) (hn : LL.length ≤ 4611686018427387904) (hil : ∀ L ∈ LL, L.length ≤ 4611686018427387904) :
    Calls Try.prog 23 #[.slice a LL.length c] w fun e w' => ∃ a' c' us, e = .returned (.slice a' (lpF LL).length c') ∧ OwnLL w' w.heap.size w'.heap.size 31 3 (.slice a' (lpF LL).length c') us (lpF LL) ∧ Below w.heap.size w w' := by
  have HIL := Lib.hid hil
  clear hil
  have hi2 : (Try.prog.info? 38).map (·.size) = some (arr (gridV LL).flatten).size := by rw [arr_size, sq_len ⟨gridV_len LL, gridV_rows LL⟩]; exact T_info256
  have hszv : (arr (gridV LL).flatten).size = (arr zsq.flatten).size := by rw [arr_size, arr_size, sq_len ⟨gridV_len LL, gridV_rows LL⟩]; rfl
  have HPO := Lib.hid (fun w h hB => pileOf_any a c B LL w h hB hn HIL.out)
  obtain ⟨v, hv⟩ : ∃ v, v = vpl LL := ⟨_, rfl⟩
  rw [← hv] at HPO
  obtain ⟨G, hG⟩ : ∃ G, G = arr (gridV LL).flatten := ⟨_, rfl⟩
  have hone : ∀ v ∈ G.toList, v.oneCell' = true := by rw [hG]; exact arr_one _
  rw [← hG] at hi2 hszv HPO
  have HG := Lib.hid hG
  clear hG
  cases v with
  | false =>
    have HN := Lib.hid (lpF_no hv.symm)
    clear hv
    go_enter Try.func23, Try.ntmps23
    go_wp2_with (first
      | (go_at_call 38; refine (HPO.out _ h hB).mono ?_; rintro e w1 ⟨rfl, hb1⟩; have hbz := Blk.new w1 38 (arr zsq.flatten))
      | (refine wpList_store_row rfl 38 (.tmp 3) (.tmp 8) rfl w1.heap.size rfl G rfl 38 _ hbz hi2 hszv hone ?_))
    have hbb : Below w1.heap.size w1 ((w1.alloc (.cells (arr zsq.flatten) 38)).setRow w1.heap.size G) := below_setRow' ((Below.refl _ _).alloc (Nat.le_refl _) _) (Nat.le_refl _) _
    go_ret
    rw [HN.out]
    exact ⟨none, 0, [], rfl, OwnLL.nil _ _ _ _, hb1.trans (hbb.mono hb1.size)⟩
  | true =>
    have hvl := hv.symm
    have HY := Lib.hid (lpF_yes hvl)
    have HGR : Hid (G = arr (gridR LL).flatten) := Lib.hid (by rw [HG.out, gridV_yes hvl])
    have HV := Lib.hid hvl
    clear hv hvl
    go_enter Try.func23, Try.ntmps23
    go_wp2_with (first
      | (go_at_call 38; refine (HPO.out _ h hB).mono ?_; rintro e w1 ⟨rfl, hb1⟩; have hbz := Blk.new w1 38 (arr zsq.flatten); have hbz2 := hbz.row (vs := G))
      | (refine wpList_store_row rfl 38 (.tmp 3) (.tmp 8) rfl w1.heap.size rfl G rfl 38 _ hbz hi2 hszv hone ?_)
      | (refine wpList_load_row rfl 38 (.tmp 3) rfl w1.heap.size rfl 38 G (0, 0) _ hbz2 Try.underlying38 rfl hi2 ?_)
      | (go_at_call 46; rw [HGR.out]; refine (players_any LL HV.out _).mono ?_; rintro e w2 ⟨rfl, hb2⟩)
      | (go_at_call 43; refine (plist_any (layP LL) (vpl_lay HV.out) _).mono ?_; rintro e w3 ⟨a3, c3, us, rfl, ho3, hb3⟩; have HO3 := Lib.hid ho3; clear ho3))
    have hbb : Below w1.heap.size w1 ((w1.alloc (.cells (arr zsq.flatten) 38)).setRow w1.heap.size G) := below_setRow' ((Below.refl _ _).alloc (Nat.le_refl _) _) (Nat.le_refl _) _
    have hbt := hb1.trans (hbb.mono hb1.size)
    go_ret
    rw [HY.out]
    exact ⟨a3, c3, us, rfl, HO3.out.lower (by rw [← HGR.out] at hb2; have := (hbt.trans (hb2.mono hbt.size)).size; omega), by rw [← HGR.out] at hb2; have hbu := hbt.trans (hb2.mono hbt.size); exact hbu.trans (hb3.mono hbu.size)⟩
theorem T_partP (R : List (List Int)) (hR : Sq R) (k : Nat) (hk : k < R.length) (w : World) : (part 36 (arr R.flatten) (k * 16)).run Try.prog w = .ok (.agg (arr R[k])) w := by
  have hs : (sizeOf 36).run Try.prog w = .ok 16 w := by
    cases hq : Try.prog.info? 36 with
    | none => have := T_info35; rw [hq] at this; cases this
    | some i => have := T_info35; rw [hq] at this; simp [sizeOf, typeInfo, hq]; simpa using this
  simp only [part, Sem.run_bind, T_isAgg_d, Result.andThen_ok, if_true, hs, Sem.run_pure]
  rw [arr_flat_row hR.2 hk]
theorem run_eqItems_gen {P : Program} {e : TypeId} {c n : Nat} {cs ds : Array Value} {f g : Nat → Value} {r : Nat → Bool} (w : World) : ∀ l : List Nat,
    (∀ k ∈ l, (part e cs (k * c)).run P w = .ok (f k) w ∧ (part e ds (k * c)).run P w = .ok (g k) w ∧ (Op.equalIn n e (f k) (g k)).run P w = .ok (r k) w) → (Op.eqItems n e c cs ds l).run P w = .ok (l.all r) w
  | [], _ => by simp [Op.eqItems]
  | k :: l, h => by
    have ih := run_eqItems_gen w l fun j hj => h j (by simp [hj])
    obtain ⟨p1, p2, p3⟩ := h k (by simp)
    simp only [Op.eqItems, Sem.run_bind, p1, p2, p3, Result.andThen_ok, List.all_cons]
    cases hq : r k
    · simp
    · simpa using ih
theorem T_eqItemsP (d : Nat) (A B : List (List Int)) (hA : Sq A) (hB : Sq B) (w : World) (l : List Nat) (h : ∀ k ∈ l, k < 16) : (Op.eqItems (d + 1 + 1) 36 16 (arr A.flatten) (arr B.flatten) l).run Try.prog w = .ok (l.all fun k => decide (A.getD k [] = B.getD k [])) w := by
  refine run_eqItems_gen (f := fun k => .agg (arr (A.getD k []))) (g := fun k => .agg (arr (B.getD k []))) w l (fun k hk => ?_)
  have hk16 := h k hk
  have h1 : k < A.length := by rw [hA.1]; exact hk16
  have h2 : k < B.length := by rw [hB.1]; exact hk16
  rw [gl_lt h1, gl_lt h2]
  exact ⟨T_partP A hA k h1 w, T_partP B hB k h2 w, T_eqD d A[k] B[k] (hA.2 _ (List.getElem_mem h1)) (hB.2 _ (List.getElem_mem h2)) w⟩
theorem T_eqP (A B : List (List Int)) (hA : Sq A) (hB : Sq B) (w : World) : (Op.equalIn 10000 38 (.agg (arr A.flatten)) (.agg (arr B.flatten))).run Try.prog w = .ok (decide (A = B)) w := by
  obtain ⟨i, hi⟩ := info_of_underlying Try.underlying36
  rw [show (10000 : Nat) = 9997 + 1 + 1 + 1 from rfl, run_equalIn_array w (9997 + 1 + 1) (arr A.flatten) (arr B.flatten) Try.underlying38 hi, show Try.prog.cellsOf 36 = 16 by kernel_rfl, T_eqItemsP 9997 A B hA hB w _ (fun k hk => by simpa using hk)]
  congr 1
  rw [Bool.eq_iff_iff, List.all_eq_true, decide_eq_true_eq]
  constructor
  · intro hh
    apply List.ext_getElem
    · rw [hA.1, hB.1]
    · intro k h1 h2
      have := hh k (by rw [hA.1] at h1; simpa using h1)
      rw [gl_lt h1, gl_lt h2] at this
      simpa using this
  · rintro rfl k _
    simp
set_option maxHeartbeats 4000000 in
theorem iIsEvenPile_any (a : Option Addr) (c B : Nat) (LL : List (List Int)) (w : World) (h : RdLL w B a LL) (hB : B ≤ w.heap.size) (hn : LL.length ≤ 4611686018427387904) (hil : ∀ L ∈ LL, L.length ≤ 4611686018427387904) :
    Calls Try.prog 33 #[.slice a LL.length c] w fun e w' => e = .returned (.bool (evF LL)) ∧ Below w.heap.size w w' := by
  have HIL := Lib.hid hil
  clear hil
  have hi2 : (Try.prog.info? 38).map (·.size) = some (arr (gridV LL).flatten).size := by rw [arr_size, sq_len ⟨gridV_len LL, gridV_rows LL⟩]; exact T_info256
  have hszv : (arr (gridV LL).flatten).size = (arr zsq.flatten).size := by rw [arr_size, arr_size, sq_len ⟨gridV_len LL, gridV_rows LL⟩]; rfl
  have HPO := Lib.hid (fun w h hB => pileOf_any a c B LL w h hB hn HIL.out)
  obtain ⟨v, hv⟩ : ∃ v, v = vpl LL := ⟨_, rfl⟩
  rw [← hv] at HPO
  have hgt : Try.prog.eqGuardType Try.prog.depth 38 = false := by kernel_rfl
  have hup := Try.underlying38
  obtain ⟨G, hG⟩ : ∃ G, G = arr (gridV LL).flatten := ⟨_, rfl⟩
  have hone : ∀ v ∈ G.toList, v.oneCell' = true := by rw [hG]; exact arr_one _
  rw [← hG] at hi2 hszv HPO
  have HG := Lib.hid hG
  clear hG
  cases v with
  | false =>
    have HN := Lib.hid (evF_no hv.symm)
    clear hv
    go_enter Try.func33, Try.ntmps33
    go_wp2_with (first
      | (go_at_call 38; refine (HPO.out _ h hB).mono ?_; rintro e w1 ⟨rfl, hb1⟩; have hbz := Blk.new w1 38 (arr zsq.flatten))
      | (refine wpList_store_row rfl 38 (.tmp 3) (.tmp 8) rfl w1.heap.size rfl G rfl 38 _ hbz hi2 hszv hone ?_))
    have hbb : Below w1.heap.size w1 ((w1.alloc (.cells (arr zsq.flatten) 38)).setRow w1.heap.size G) := below_setRow' ((Below.refl _ _).alloc (Nat.le_refl _) _) (Nat.le_refl _) _
    refine wp_region_held_drew (S := fun w' => Below w.heap.size w w') (by kernel_rfl) ((hb1.trans (hbb.mono hb1.size)).trans ((Dr.n _ 1).below _)) (fun hHeld => ?_)
    refine wpAnyH_take (i := 0) (v := .bool false) (by simp only [List.getElem?_toArray, List.getElem?_cons_succ, List.getElem?_cons_zero]; exact rfl) (by kernel_rfl) (by kernel_rfl) (by kernel_rfl) (by intro _ _ _ h; exact h) (Or.inl ⟨by kernel_rfl, by intro w hSw; go_simp⟩) (by assumption) ?_
    simp only [Act.put, List.setIfInBounds_toArray, List.set_cons_zero, List.set_cons_succ, List.toList_toArray]
    refine wpAnyH_take (i := 1) (v := .bool false) (by simp only [List.getElem?_toArray, List.getElem?_cons_succ, List.getElem?_cons_zero]; exact rfl) (by kernel_rfl) (by kernel_rfl) (by kernel_rfl) (by intro _ _ _ h; exact h) (Or.inl ⟨by kernel_rfl, by intro w hSw; go_simp⟩) (by assumption) ?_
    simp only [Act.put, List.setIfInBounds_toArray, List.set_cons_zero, List.set_cons_succ, List.toList_toArray]
    refine wpAnyH_take (i := 2) (v := undef) (by simp only [List.getElem?_toArray, List.getElem?_cons_succ, List.getElem?_cons_zero]; exact rfl) (by kernel_rfl) (by kernel_rfl) (by kernel_rfl) (by intro _ _ _ h; exact h) (Or.inr ⟨by kernel_rfl, rfl⟩) (by assumption) ?_
    simp only [Act.put, List.setIfInBounds_toArray, List.set_cons_zero, List.set_cons_succ, List.toList_toArray]
    refine wpAnyH_take (i := 3) (v := undef) (by simp only [List.getElem?_toArray, List.getElem?_cons_succ, List.getElem?_cons_zero]; exact rfl) (by kernel_rfl) (by kernel_rfl) (by kernel_rfl) (by intro _ _ _ h; exact h) (Or.inr ⟨by kernel_rfl, rfl⟩) (by assumption) ?_
    simp only [Act.put, List.setIfInBounds_toArray, List.set_cons_zero, List.set_cons_succ, List.toList_toArray]
    refine wpAnyH_take (i := 4) (v := undef) (by simp only [List.getElem?_toArray, List.getElem?_cons_succ, List.getElem?_cons_zero]; exact rfl) (by kernel_rfl) (by kernel_rfl) (by kernel_rfl) (by intro _ _ _ h; exact h) (Or.inr ⟨by kernel_rfl, rfl⟩) (by assumption) ?_
    simp only [Act.put, List.setIfInBounds_toArray, List.set_cons_zero, List.set_cons_succ, List.toList_toArray]
    refine wpAnyH_take (i := 5) (v := undef) (by simp only [List.getElem?_toArray, List.getElem?_cons_succ, List.getElem?_cons_zero]; exact rfl) (by kernel_rfl) (by kernel_rfl) (by kernel_rfl) (by intro _ _ _ h; exact h) (Or.inr ⟨by kernel_rfl, rfl⟩) (by assumption) ?_
    simp only [Act.put, List.setIfInBounds_toArray, List.set_cons_zero, List.set_cons_succ, List.toList_toArray]
    refine wpAnyH_take (i := 6) (v := .bool false) (by simp only [List.getElem?_toArray, List.getElem?_cons_succ, List.getElem?_cons_zero]; exact rfl) (by kernel_rfl) (by kernel_rfl) (by kernel_rfl) (by intro _ _ _ h; exact h) (Or.inl ⟨by kernel_rfl, by intro w hSw; go_simp⟩) (by assumption) ?_
    simp only [Act.put, List.setIfInBounds_toArray, List.set_cons_zero, List.set_cons_succ, List.toList_toArray]
    refine wpAnyH_take (i := 7) (v := .bool false) (by simp only [List.getElem?_toArray, List.getElem?_cons_succ, List.getElem?_cons_zero]; exact rfl) (by kernel_rfl) (by kernel_rfl) (by kernel_rfl) (by intro _ _ _ h; exact h) (Or.inl ⟨by kernel_rfl, by intro w hSw; go_simp⟩) (by assumption) ?_
    simp only [Act.put, List.setIfInBounds_toArray, List.set_cons_zero, List.set_cons_succ, List.toList_toArray]
    refine wpAnyH_done (by kernel_rfl) ?_ _
    try simp only [Act.put, List.setIfInBounds_toArray, List.set_cons_zero, List.set_cons_succ]
    go_wp2_with fail
    go_ret
    rw [HN.out]
    exact ⟨rfl, hHeld⟩
  | true =>
    have hvl := hv.symm
    have HGR : Hid (G = arr (gridR LL).flatten) := Lib.hid (by rw [HG.out, gridV_yes hvl])
    have HV := Lib.hid hvl
    have HEQ := Lib.hid (evF_grid hvl)
    have hiL : (Try.prog.info? 38).map (·.size) = some (ints (gridR LL).flatten).length := by rw [List.length_map, sq_len (gridR_sq hvl)]; exact T_info256
    clear hv hvl
    go_enter Try.func33, Try.ntmps33
    go_wp2_with (first
      | (go_at_call 38; refine (HPO.out _ h hB).mono ?_; rintro e w1 ⟨rfl, hb1⟩; have hbz := Blk.new w1 38 (arr zsq.flatten))
      | (refine wpList_store_row rfl 38 (.tmp 3) (.tmp 8) rfl w1.heap.size rfl G rfl 38 _ hbz hi2 hszv hone ?_))
    have hbb : Below w1.heap.size w1 ((w1.alloc (.cells (arr zsq.flatten) 38)).setRow w1.heap.size G) := below_setRow' ((Below.refl _ _).alloc (Nat.le_refl _) _) (Nat.le_refl _) _
    have hbz2 := hbz.row (vs := G)
    have hbt := hb1.trans (hbb.mono hb1.size)
    have hr0 := Blk.rangeQ (vs := ints (gridR LL).flatten) (by rw [HGR.out] at hbz2; exact hbz2)
    rw [← HGR.out] at hr0
    have hS0 : (fun w' => w'.rangeAt w1.heap.size 0 (ints (gridR LL).flatten) ∧ Below w.heap.size w w') ((w1.alloc (.cells (arr zsq.flatten) 38)).setRow w1.heap.size G).drew := ⟨hr0, hbt.trans ((Dr.n _ 1).below _)⟩
    refine wp_region_held_drew (S := fun w' => w'.rangeAt w1.heap.size 0 (ints (gridR LL).flatten) ∧ Below w.heap.size w w') (by kernel_rfl) hS0 (fun hHeld => ?_)
    refine wpAnyH_take (i := 0) (v := .bool true) (by simp only [List.getElem?_toArray, List.getElem?_cons_succ, List.getElem?_cons_zero]; exact rfl) (by kernel_rfl) (by kernel_rfl) (by kernel_rfl) (by intro _ _ _ h; exact h) (Or.inl ⟨by kernel_rfl, by intro w hSw; go_simp⟩) (by assumption) ?_
    simp only [Act.put, List.setIfInBounds_toArray, List.set_cons_zero, List.set_cons_succ, List.toList_toArray]
    refine wpAnyH_take (i := 1) (v := .bool true) (by simp only [List.getElem?_toArray, List.getElem?_cons_succ, List.getElem?_cons_zero]; exact rfl) (by kernel_rfl) (by kernel_rfl) (by kernel_rfl) (by intro _ _ _ h; exact h) (Or.inl ⟨by kernel_rfl, by intro w hSw; go_simp⟩) (by assumption) ?_
    simp only [Act.put, List.setIfInBounds_toArray, List.set_cons_zero, List.set_cons_succ, List.toList_toArray]
    refine wpAnyH_take (i := 2) (v := .agg (arr (gridR LL).flatten)) (by simp only [List.getElem?_toArray, List.getElem?_cons_succ, List.getElem?_cons_zero]; exact rfl) (by kernel_rfl) (by kernel_rfl) (by kernel_rfl) (by intro _ _ _ h; exact h) (yieldsIf_load_mid (by kernel_rfl) _ _ rfl w1.heap.size 0 rfl (ints (gridR LL).flatten) _ (fun _ hw => hw.1) hup rfl hiL) (by assumption) ?_
    simp only [Act.put, List.setIfInBounds_toArray, List.set_cons_zero, List.set_cons_succ, List.toList_toArray]
    refine wpAnyH_take (i := 3) (v := .agg (arr (gridR LL).flatten)) (by simp only [List.getElem?_toArray, List.getElem?_cons_succ, List.getElem?_cons_zero]; exact rfl) (by kernel_rfl) (by kernel_rfl) (by kernel_rfl) (by intro _ _ _ h; exact h) (yieldsIf_load_mid (by kernel_rfl) _ _ rfl w1.heap.size 0 rfl (ints (gridR LL).flatten) _ (fun _ hw => hw.1) hup rfl hiL) (by assumption) ?_
    simp only [Act.put, List.setIfInBounds_toArray, List.set_cons_zero, List.set_cons_succ, List.toList_toArray]
    refine wpAnyH_ready (rs := [4]) (by kernel_rfl) (by simp) ?_
    refine AllReadyH.cons (o := _) (by simp only [List.getElem?_toArray, List.getElem?_cons_succ, List.getElem?_cons_zero]; exact rfl) (fun K hK => ?_) AllReadyH.nil
    rw [if_pos (by rfl)]
    go_simp
    go_at_call 42
    refine (pturned_any LL HV.out _).mono ?_
    rintro e w2 ⟨rfl, hb2⟩
    refine hK.out _ _ ⟨range_below hHeld.1 hb2, hHeld.2.trans (hb2.mono hHeld.2.size)⟩ (fun hH2 => ?_)
    clear hK K
    try simp only [Act.put, List.setIfInBounds_toArray, List.set_cons_zero, List.set_cons_succ, List.toList_toArray]
    refine wpAnyH_take (i := 5) (v := .bool (evF LL)) (by simp only [List.getElem?_toArray, List.getElem?_cons_succ, List.getElem?_cons_zero]; exact rfl) (by kernel_rfl) (by kernel_rfl) (by kernel_rfl) (by intro _ _ _ h; exact h) (Or.inl ⟨by kernel_rfl, fun w _ => by rw [← HEQ.out]; exact exec_eql 38 38 (.tmp 12) (.tmp 14) rfl rfl rfl hgt (T_eqP (gridR LL) (gridR (turnP LL)) (gridR_sq HV.out) (gridR_sq (vpl_turn HV.out)) w)⟩) (by assumption) ?_
    simp only [Act.put, List.setIfInBounds_toArray, List.set_cons_zero, List.set_cons_succ, List.toList_toArray]
    refine wpAnyH_take (i := 6) (v := .bool (evF LL)) (by simp only [List.getElem?_toArray, List.getElem?_cons_succ, List.getElem?_cons_zero]; exact rfl) (by kernel_rfl) (by kernel_rfl) (by kernel_rfl) (by intro _ _ _ h; exact h) (Or.inl ⟨by kernel_rfl, by intro w hSw; go_simp⟩) (by assumption) ?_
    simp only [Act.put, List.setIfInBounds_toArray, List.set_cons_zero, List.set_cons_succ, List.toList_toArray]
    refine wpAnyH_take (i := 7) (v := .bool (evF LL)) (by simp only [List.getElem?_toArray, List.getElem?_cons_succ, List.getElem?_cons_zero]; exact rfl) (by kernel_rfl) (by kernel_rfl) (by kernel_rfl) (by intro _ _ _ h; exact h) (Or.inl ⟨by kernel_rfl, by intro w hSw; go_simp⟩) (by assumption) ?_
    simp only [Act.put, List.setIfInBounds_toArray, List.set_cons_zero, List.set_cons_succ, List.toList_toArray]
    refine wpAnyH_done (by kernel_rfl) ?_ _
    try simp only [Act.put, List.setIfInBounds_toArray, List.set_cons_zero, List.set_cons_succ]
    go_wp2_with fail
    go_ret
    exact ⟨rfl, hH2.2⟩
end Go.Proofs.Ytnheolhgdinjgaa
