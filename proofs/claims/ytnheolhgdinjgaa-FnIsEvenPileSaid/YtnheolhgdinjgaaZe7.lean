/-
  Walks of the program: ValidPile, PileSum, TurnPile, LayersOf, IsEvenPile. Walks of the model: piles in layers, even piles. Walks: a bent list of parts: what it leaves alone. Walks: the laws' own helpers on lists of lists: compared (eqIntSS, equalLists). Lists of lists that come in: their sizes, their copies. Walks: the drawing of piles. Walks: the draws of piles. Mathematics: all parts with a sum, none greater than a number, the greater first.
-/
import Derived.Test.YtnheolhgdinjgaaZe1
import Derived.Test.YtnheolhgdinjgaaZe2
import Derived.Test.YtnheolhgdinjgaaZe3
import Derived.Test.YtnheolhgdinjgaaZe4
import Derived.Test.YtnheolhgdinjgaaZe5
import Derived.Test.YtnheolhgdinjgaaZe6
import Derived.RegionTactic
import Derived.Deep.RegionHeld3
import Derived.Deep.MidRow
import Derived.Deep.Matrix
import Derived.StillTailTactics
namespace Go.Proofs.Ytnheolhgdinjgaa
open Go.RowKit NP
set_option maxRecDepth 100000
set_option linter.unusedVariables false
set_option linter.unusedSimpArgs false
theorem gridV_yes {LL : List (List Int)} (h : vpl LL = true) : gridV LL = gridR LL := by unfold gridV; rw [h]; rfl
theorem iValidPile_any (a : Option Addr) (c B : Nat) (LL : List (List Int)) (w : World) (h : RdLL w B a LL) (hB : B ≤ w.heap.size) (hn : LL.length ≤ 4611686018427387904) (hil : ∀ L ∈ LL, L.length ≤ 4611686018427387904) :
    Calls Try.prog 16 #[.slice a LL.length c] w fun e w' => e = .returned (.bool (vpl LL)) ∧ Below w.heap.size w w' := by
  have HIL := Lib.hid hil
  clear hil
  have hi2 : (Try.prog.info? 38).map (·.size) = some (arr (gridV LL).flatten).size := by rw [arr_size, sq_len ⟨gridV_len LL, gridV_rows LL⟩]; exact T_info256
  have hszv : (arr (gridV LL).flatten).size = (arr zsq.flatten).size := by rw [arr_size, arr_size, sq_len ⟨gridV_len LL, gridV_rows LL⟩]; rfl
  have HPO := Lib.hid (fun w h hB => pileOf_any a c B LL w h hB hn HIL.out)
  obtain ⟨v, hv⟩ : ∃ v, v = vpl LL := ⟨_, rfl⟩
  rw [← hv] at HPO
  rw [← hv]
  obtain ⟨G, hG⟩ : ∃ G, G = arr (gridV LL).flatten := ⟨_, rfl⟩
  have hone : ∀ v ∈ G.toList, v.oneCell' = true := by rw [hG]; exact arr_one _
  rw [← hG] at hi2 hszv HPO
  clear hG hv
  go_enter Try.func16, Try.ntmps16
  go_wp2_with (first
    | (go_at_call 38; refine (HPO.out _ h hB).mono ?_; rintro e w1 ⟨rfl, hb1⟩; have hbz := Blk.new w1 38 (arr zsq.flatten))
    | (refine wpList_store_row rfl 38 (.tmp 3) (.tmp 8) rfl w1.heap.size rfl G rfl 38 _ hbz hi2 hszv hone ?_))
  have hbb : Below w1.heap.size w1 ((w1.alloc (.cells (arr zsq.flatten) 38)).setRow w1.heap.size G) := below_setRow' ((Below.refl _ _).alloc (Nat.le_refl _) _) (Nat.le_refl _) _
  go_ret
  exact ⟨rfl, hb1.trans (hbb.mono hb1.size)⟩
set_option maxHeartbeats 1000000 in
theorem iPileSum_any (a : Option Addr) (c B : Nat) (LL : List (List Int)) (w : World) (h : RdLL w B a LL) (hB : B ≤ w.heap.size) (hn : LL.length ≤ 4611686018427387904) (hil : ∀ L ∈ LL, L.length ≤ 4611686018427387904) :
    Calls Try.prog 21 #[.slice a LL.length c] w fun e w' => e = .returned (.int .i64 (psF LL)) ∧ Below w.heap.size w w' := by
  have HIL := Lib.hid hil
  clear hil
  have hi2 : (Try.prog.info? 38).map (·.size) = some (arr (gridV LL).flatten).size := by rw [arr_size, sq_len ⟨gridV_len LL, gridV_rows LL⟩]; exact T_info256
  have hszv : (arr (gridV LL).flatten).size = (arr zsq.flatten).size := by rw [arr_size, arr_size, sq_len ⟨gridV_len LL, gridV_rows LL⟩]; rfl
  have HPO := Lib.hid (fun w h hB => pileOf_any a c B LL w h hB hn HIL.out)
  obtain ⟨v, hv⟩ : ∃ v, v = vpl LL := ⟨_, rfl⟩
  rw [← hv] at HPO
  obtain ⟨G, hG⟩ : ∃ G, G = arr (gridV LL).flatten := ⟨_, rfl⟩
  have hone : ∀ v ∈ G.toList, v.oneCell' = true := by rw [hG]; exact arr_one _
  rw [← hG] at hi2 hszv HPO
  have HG := Lib.hid hG
  clear hG
  cases v with
  | false =>
    have HN := Lib.hid (psF_no hv.symm)
    clear hv
    go_enter Try.func21, Try.ntmps21
    go_wp2_with (first
      | (go_at_call 38; refine (HPO.out _ h hB).mono ?_; rintro e w1 ⟨rfl, hb1⟩; have hbz := Blk.new w1 38 (arr zsq.flatten))
      | (refine wpList_store_row rfl 38 (.tmp 3) (.tmp 8) rfl w1.heap.size rfl G rfl 38 _ hbz hi2 hszv hone ?_))
    have hbb : Below w1.heap.size w1 ((w1.alloc (.cells (arr zsq.flatten) 38)).setRow w1.heap.size G) := below_setRow' ((Below.refl _ _).alloc (Nat.le_refl _) _) (Nat.le_refl _) _
    go_ret
    rw [HN.out]
    exact ⟨rfl, hb1.trans (hbb.mono hb1.size)⟩
  | true =>
    have hvl := hv.symm
    have HY := Lib.hid (psF_yes hvl)
    have HGR : Hid (G = arr (gridR LL).flatten) := Lib.hid (by rw [HG.out, gridV_yes hvl])
    have HV := Lib.hid hvl
    clear hv hvl
    go_enter Try.func21, Try.ntmps21
    go_wp2_with (first
      | (go_at_call 38; refine (HPO.out _ h hB).mono ?_; rintro e w1 ⟨rfl, hb1⟩; have hbz := Blk.new w1 38 (arr zsq.flatten); have hbz2 := hbz.row (vs := G))
      | (refine wpList_store_row rfl 38 (.tmp 3) (.tmp 8) rfl w1.heap.size rfl G rfl 38 _ hbz hi2 hszv hone ?_)
      | (refine wpList_load_row rfl 38 (.tmp 3) rfl w1.heap.size rfl 38 G (0, 0) _ hbz2 Try.underlying38 rfl hi2 ?_)
      | (go_at_call 45; rw [HGR.out]; refine (psum_any LL HV.out _).mono ?_; rintro e w2 ⟨rfl, hb2⟩))
    have hbb : Below w1.heap.size w1 ((w1.alloc (.cells (arr zsq.flatten) 38)).setRow w1.heap.size G) := below_setRow' ((Below.refl _ _).alloc (Nat.le_refl _) _) (Nat.le_refl _) _
    have hbt := hb1.trans (hbb.mono hb1.size)
    go_ret
    rw [HY.out]
    exact ⟨rfl, by rw [← HGR.out] at hb2; exact hbt.trans (hb2.mono hbt.size)⟩
set_option maxHeartbeats 1000000 in
theorem iTurnPile_any (a : Option Addr) (c B : Nat) (LL : List (List Int)) (w : World) (h : RdLL w B a LL) (hB : B ≤ w.heap.size) (hn : LL.length ≤ 4611686018427387904) (hil : ∀ L ∈ LL, L.length ≤ 4611686018427387904) :
    Calls Try.prog 19 #[.slice a LL.length c] w fun e w' => ∃ a' c' us, e = .returned (.slice a' (tpF LL).length c') ∧ OwnLL w' w.heap.size w'.heap.size 31 3 (.slice a' (tpF LL).length c') us (tpF LL) ∧ Below w.heap.size w w' := by
  have HIL := Lib.hid hil
  clear hil
  have hi2 : (Try.prog.info? 38).map (·.size) = some (arr (gridV LL).flatten).size := by rw [arr_size, sq_len ⟨gridV_len LL, gridV_rows LL⟩]; exact T_info256
  have hszv : (arr (gridV LL).flatten).size = (arr zsq.flatten).size := by rw [arr_size, arr_size, sq_len ⟨gridV_len LL, gridV_rows LL⟩]; rfl
  have HPO := Lib.hid (fun w h hB => pileOf_any a c B LL w h hB hn HIL.out)
  obtain ⟨v, hv⟩ : ∃ v, v = vpl LL := ⟨_, rfl⟩
  rw [← hv] at HPO
  obtain ⟨G, hG⟩ : ∃ G, G = arr (gridV LL).flatten := ⟨_, rfl⟩
  have hone : ∀ v ∈ G.toList, v.oneCell' = true := by rw [hG]; exact arr_one _
  rw [← hG] at hi2 hszv HPO
  have HG := Lib.hid hG
  clear hG
  cases v with
  | false =>
    have HN := Lib.hid (tpF_no hv.symm)
    clear hv
    go_enter Try.func19, Try.ntmps19
    go_wp2_with (first
      | (go_at_call 38; refine (HPO.out _ h hB).mono ?_; rintro e w1 ⟨rfl, hb1⟩; have hbz := Blk.new w1 38 (arr zsq.flatten))
      | (refine wpList_store_row rfl 38 (.tmp 3) (.tmp 8) rfl w1.heap.size rfl G rfl 38 _ hbz hi2 hszv hone ?_))
    have hbb : Below w1.heap.size w1 ((w1.alloc (.cells (arr zsq.flatten) 38)).setRow w1.heap.size G) := below_setRow' ((Below.refl _ _).alloc (Nat.le_refl _) _) (Nat.le_refl _) _
    go_ret
    rw [HN.out]
    exact ⟨none, 0, [], rfl, OwnLL.nil _ _ _ _, hb1.trans (hbb.mono hb1.size)⟩
  | true =>
    have hvl := hv.symm
    have HY := Lib.hid (tpF_yes hvl)
    have HGR : Hid (G = arr (gridR LL).flatten) := Lib.hid (by rw [HG.out, gridV_yes hvl])
    have HV := Lib.hid hvl
    clear hv hvl
    go_enter Try.func19, Try.ntmps19
    go_wp2_with (first
      | (go_at_call 38; refine (HPO.out _ h hB).mono ?_; rintro e w1 ⟨rfl, hb1⟩; have hbz := Blk.new w1 38 (arr zsq.flatten); have hbz2 := hbz.row (vs := G))
      | (refine wpList_store_row rfl 38 (.tmp 3) (.tmp 8) rfl w1.heap.size rfl G rfl 38 _ hbz hi2 hszv hone ?_)
      | (refine wpList_load_row rfl 38 (.tmp 3) rfl w1.heap.size rfl 38 G (0, 0) _ hbz2 Try.underlying38 rfl hi2 ?_)
      | (go_at_call 42; rw [HGR.out]; refine (pturned_any LL HV.out _).mono ?_; rintro e w2 ⟨rfl, hb2⟩)
      | (go_at_call 43; refine (plist_any (turnP LL) (vpl_turn HV.out) _).mono ?_; rintro e w3 ⟨a3, c3, us, rfl, ho3, hb3⟩; have HO3 := Lib.hid ho3; clear ho3))
    have hbb : Below w1.heap.size w1 ((w1.alloc (.cells (arr zsq.flatten) 38)).setRow w1.heap.size G) := below_setRow' ((Below.refl _ _).alloc (Nat.le_refl _) _) (Nat.le_refl _) _
    have hbt := hb1.trans (hbb.mono hb1.size)
    go_ret
    rw [HY.out]
    exact ⟨a3, c3, us, rfl, HO3.out.lower (by rw [← HGR.out] at hb2; have := (hbt.trans (hb2.mono hbt.size)).size; omega), by rw [← HGR.out] at hb2; have hbu := hbt.trans (hb2.mono hbt.size); exact hbu.trans (hb3.mono hbu.size)⟩
set_option maxHeartbeats 1000000 in
theorem iLayersOf_any (a : Option Addr) (c B : Nat) (LL : List (List Int)) (w : World) (h : RdLL w B a LL) (hB : B ≤ w.heap.size) (hn : LL.length ≤ 4611686018427387904) (hil : ∀ L ∈ LL, L.length ≤ 4611686018427387904) :
    Calls Try.prog 23 #[.slice a LL.length c] w fun e w' => ∃ a' c' us, e = .returned (.slice a' (lpF LL).length c') ∧ OwnLL w' w.heap.size w'.heap.size 31 3 (.slice a' (lpF LL).length c') us (lpF LL) ∧ Below w.heap.size w w' := by
  have HIL := Lib.hid hil
  clear hil
  have hi2 : (Try.prog.info? 38).map (·.size) = some (arr (gridV LL).flatten).size := by rw [arr_size, sq_len ⟨gridV_len LL, gridV_rows LL⟩]; exact T_info256
  have hszv : (arr (gridV LL).flatten).size = (arr zsq.flatten).size := by rw [arr_size, arr_size, sq_len ⟨gridV_len LL, gridV_rows LL⟩]; rfl
  have HPO := Lib.hid (fun w h hB => pileOf_any a c B LL w h hB hn HIL.out)
  obtain ⟨v, hv⟩ : ∃ v, v = vpl LL := ⟨_, rfl⟩
  rw [← hv] at HPO
  obtain ⟨G, hG⟩ : ∃ G, G = arr (gridV LL).flatten := ⟨_, rfl⟩
  have hone : ∀ v ∈ G.toList, v.oneCell' = true := by rw [hG]; exact arr_one _
  rw [← hG] at hi2 hszv HPO
  have HG := Lib.hid hG
  clear hG
  cases v with
  | false =>
    have HN := Lib.hid (lpF_no hv.symm)
    clear hv
    go_enter Try.func23, Try.ntmps23
    go_wp2_with (first
      | (go_at_call 38; refine (HPO.out _ h hB).mono ?_; rintro e w1 ⟨rfl, hb1⟩; have hbz := Blk.new w1 38 (arr zsq.flatten))
      | (refine wpList_store_row rfl 38 (.tmp 3) (.tmp 8) rfl w1.heap.size rfl G rfl 38 _ hbz hi2 hszv hone ?_))
    have hbb : Below w1.heap.size w1 ((w1.alloc (.cells (arr zsq.flatten) 38)).setRow w1.heap.size G) := below_setRow' ((Below.refl _ _).alloc (Nat.le_refl _) _) (Nat.le_refl _) _
    go_ret
    rw [HN.out]
    exact ⟨none, 0, [], rfl, OwnLL.nil _ _ _ _, hb1.trans (hbb.mono hb1.size)⟩
  | true =>
    have hvl := hv.symm
    have HY := Lib.hid (lpF_yes hvl)
    have HGR : Hid (G = arr (gridR LL).flatten) := Lib.hid (by rw [HG.out, gridV_yes hvl])
    have HV := Lib.hid hvl
    clear hv hvl
    go_enter Try.func23, Try.ntmps23
    go_wp2_with (first
      | (go_at_call 38; refine (HPO.out _ h hB).mono ?_; rintro e w1 ⟨rfl, hb1⟩; have hbz := Blk.new w1 38 (arr zsq.flatten); have hbz2 := hbz.row (vs := G))
      | (refine wpList_store_row rfl 38 (.tmp 3) (.tmp 8) rfl w1.heap.size rfl G rfl 38 _ hbz hi2 hszv hone ?_)
      | (refine wpList_load_row rfl 38 (.tmp 3) rfl w1.heap.size rfl 38 G (0, 0) _ hbz2 Try.underlying38 rfl hi2 ?_)
      | (go_at_call 46; rw [HGR.out]; refine (players_any LL HV.out _).mono ?_; rintro e w2 ⟨rfl, hb2⟩)
      | (go_at_call 43; refine (plist_any (layP LL) (vpl_lay HV.out) _).mono ?_; rintro e w3 ⟨a3, c3, us, rfl, ho3, hb3⟩; have HO3 := Lib.hid ho3; clear ho3))
    have hbb : Below w1.heap.size w1 ((w1.alloc (.cells (arr zsq.flatten) 38)).setRow w1.heap.size G) := below_setRow' ((Below.refl _ _).alloc (Nat.le_refl _) _) (Nat.le_refl _) _
    have hbt := hb1.trans (hbb.mono hb1.size)
    go_ret
    rw [HY.out]
    exact ⟨a3, c3, us, rfl, HO3.out.lower (by rw [← HGR.out] at hb2; have := (hbt.trans (hb2.mono hbt.size)).size; omega), by rw [← HGR.out] at hb2; have hbu := hbt.trans (hb2.mono hbt.size); exact hbu.trans (hb3.mono hbu.size)⟩
theorem T_partP (R : List (List Int)) (hR : Sq R) (k : Nat) (hk : k < R.length) (w : World) : (part 36 (arr R.flatten) (k * 16)).run Try.prog w = .ok (.agg (arr R[k])) w := by
  have hs : (sizeOf 36).run Try.prog w = .ok 16 w := by
    cases hq : Try.prog.info? 36 with
    | none => have := T_info35; rw [hq] at this; cases this
    | some i => have := T_info35; rw [hq] at this; simp [sizeOf, typeInfo, hq]; simpa using this
  simp only [part, Sem.run_bind, T_isAgg_d, Result.andThen_ok, if_true, hs, Sem.run_pure]
  rw [arr_flat_row hR.2 hk]
theorem run_eqItems_gen {P : Program} {e : TypeId} {c n : Nat} {cs ds : Array Value} {f g : Nat → Value} {r : Nat → Bool} (w : World) : ∀ l : List Nat,
    (∀ k ∈ l, (part e cs (k * c)).run P w = .ok (f k) w ∧ (part e ds (k * c)).run P w = .ok (g k) w ∧ (Op.equalIn n e (f k) (g k)).run P w = .ok (r k) w) → (Op.eqItems n e c cs ds l).run P w = .ok (l.all r) w
  | [], _ => by simp [Op.eqItems]
  | k :: l, h => by
    have ih := run_eqItems_gen w l fun j hj => h j (by simp [hj])
    obtain ⟨p1, p2, p3⟩ := h k (by simp)
    simp only [Op.eqItems, Sem.run_bind, p1, p2, p3, Result.andThen_ok, List.all_cons]
    cases hq : r k
    · simp
    · simpa using ih
theorem T_eqItemsP (d : Nat) (A B : List (List Int)) (hA : Sq A) (hB : Sq B) (w : World) (l : List Nat) (h : ∀ k ∈ l, k < 16) : (Op.eqItems (d + 1 + 1) 36 16 (arr A.flatten) (arr B.flatten) l).run Try.prog w = .ok (l.all fun k => decide (A.getD k [] = B.getD k [])) w := by
  refine run_eqItems_gen (f := fun k => .agg (arr (A.getD k []))) (g := fun k => .agg (arr (B.getD k []))) w l (fun k hk => ?_)
  have hk16 := h k hk
  have h1 : k < A.length := by rw [hA.1]; exact hk16
  have h2 : k < B.length := by rw [hB.1]; exact hk16
  rw [gl_lt h1, gl_lt h2]
  exact ⟨T_partP A hA k h1 w, T_partP B hB k h2 w, T_eqD d A[k] B[k] (hA.2 _ (List.getElem_mem h1)) (hB.2 _ (List.getElem_mem h2)) w⟩
theorem T_eqP (A B : List (List Int)) (hA : Sq A) (hB : Sq B) (w : World) : (Op.equalIn 10000 38 (.agg (arr A.flatten)) (.agg (arr B.flatten))).run Try.prog w = .ok (decide (A = B)) w := by
  obtain ⟨i, hi⟩ := info_of_underlying Try.underlying36
  rw [show (10000 : Nat) = 9997 + 1 + 1 + 1 from rfl, run_equalIn_array w (9997 + 1 + 1) (arr A.flatten) (arr B.flatten) Try.underlying38 hi, show Try.prog.cellsOf 36 = 16 by kernel_rfl, T_eqItemsP 9997 A B hA hB w _ (fun k hk => by simpa using hk)]
  congr 1
  rw [Bool.eq_iff_iff, List.all_eq_true, decide_eq_true_eq]
  constructor
  · intro hh
    apply List.ext_getElem
    · rw [hA.1, hB.1]
    · intro k h1 h2
      have := hh k (by rw [hA.1] at h1; simpa using h1)
      rw [gl_lt h1, gl_lt h2] at this
      simpa using this
  · rintro rfl k _
    simp
set_option maxHeartbeats 4000000 in
theorem iIsEvenPile_any (a : Option Addr) (c B : Nat) (LL : List (List Int)) (w : World) (h : RdLL w B a LL) (hB : B ≤ w.heap.size) (hn : LL.length ≤ 4611686018427387904) (hil : ∀ L ∈ LL, L.length ≤ 4611686018427387904) :
    Calls Try.prog 33 #[.slice a LL.length c] w fun e w' => e = .returned (.bool (evF LL)) ∧ Below w.heap.size w w' := by
  have HIL := Lib.hid hil
  clear hil
  have hi2 : (Try.prog.info? 38).map (·.size) = some (arr (gridV LL).flatten).size := by rw [arr_size, sq_len ⟨gridV_len LL, gridV_rows LL⟩]; exact T_info256
  have hszv : (arr (gridV LL).flatten).size = (arr zsq.flatten).size := by rw [arr_size, arr_size, sq_len ⟨gridV_len LL, gridV_rows LL⟩]; rfl
  have HPO := Lib.hid (fun w h hB => pileOf_any a c B LL w h hB hn HIL.out)
  obtain ⟨v, hv⟩ : ∃ v, v = vpl LL := ⟨_, rfl⟩
  rw [← hv] at HPO
  have hgt : Try.prog.eqGuardType Try.prog.depth 38 = false := by kernel_rfl
  have hup := Try.underlying38
  obtain ⟨G, hG⟩ : ∃ G, G = arr (gridV LL).flatten := ⟨_, rfl⟩
  have hone : ∀ v ∈ G.toList, v.oneCell' = true := by rw [hG]; exact arr_one _
  rw [← hG] at hi2 hszv HPO
  have HG := Lib.hid hG
  clear hG
  cases v with
  | false =>
    have HN := Lib.hid (evF_no hv.symm)
    clear hv
    go_enter Try.func33, Try.ntmps33
    go_wp2_with (first
      | (go_at_call 38; refine (HPO.out _ h hB).mono ?_; rintro e w1 ⟨rfl, hb1⟩; have hbz := Blk.new w1 38 (arr zsq.flatten))
      | (refine wpList_store_row rfl 38 (.tmp 3) (.tmp 8) rfl w1.heap.size rfl G rfl 38 _ hbz hi2 hszv hone ?_))
    have hbb : Below w1.heap.size w1 ((w1.alloc (.cells (arr zsq.flatten) 38)).setRow w1.heap.size G) := below_setRow' ((Below.refl _ _).alloc (Nat.le_refl _) _) (Nat.le_refl _) _
    refine wp_region_held_drew (S := fun w' => Below w.heap.size w w') (by kernel_rfl) ((hb1.trans (hbb.mono hb1.size)).trans ((Dr.n _ 1).below _)) (fun hHeld => ?_)
    refine wpAnyH_take (i := 0) (v := .bool false) (by simp only [List.getElem?_toArray, List.getElem?_cons_succ, List.getElem?_cons_zero]; exact rfl) (by kernel_rfl) (by kernel_rfl) (by kernel_rfl) (by intro _ _ _ h; exact h) (Or.inl ⟨by kernel_rfl, by intro w hSw; go_simp⟩) (by assumption) ?_
    simp only [Act.put, List.setIfInBounds_toArray, List.set_cons_zero, List.set_cons_succ, List.toList_toArray]
    refine wpAnyH_take (i := 1) (v := .bool false) (by simp only [List.getElem?_toArray, List.getElem?_cons_succ, List.getElem?_cons_zero]; exact rfl) (by kernel_rfl) (by kernel_rfl) (by kernel_rfl) (by intro _ _ _ h; exact h) (Or.inl ⟨by kernel_rfl, by intro w hSw; go_simp⟩) (by assumption) ?_
    simp only [Act.put, List.setIfInBounds_toArray, List.set_cons_zero, List.set_cons_succ, List.toList_toArray]
    refine wpAnyH_take (i := 2) (v := undef) (by simp only [List.getElem?_toArray, List.getElem?_cons_succ, List.getElem?_cons_zero]; exact rfl) (by kernel_rfl) (by kernel_rfl) (by kernel_rfl) (by intro _ _ _ h; exact h) (Or.inr ⟨by kernel_rfl, rfl⟩) (by assumption) ?_
    simp only [Act.put, List.setIfInBounds_toArray, List.set_cons_zero, List.set_cons_succ, List.toList_toArray]
    refine wpAnyH_take (i := 3) (v := undef) (by simp only [List.getElem?_toArray, List.getElem?_cons_succ, List.getElem?_cons_zero]; exact rfl) (by kernel_rfl) (by kernel_rfl) (by kernel_rfl) (by intro _ _ _ h; exact h) (Or.inr ⟨by kernel_rfl, rfl⟩) (by assumption) ?_
    simp only [Act.put, List.setIfInBounds_toArray, List.set_cons_zero, List.set_cons_succ, List.toList_toArray]
    refine wpAnyH_take (i := 4) (v := undef) (by simp only [List.getElem?_toArray, List.getElem?_cons_succ, List.getElem?_cons_zero]; exact rfl) (by kernel_rfl) (by kernel_rfl) (by kernel_rfl) (by intro _ _ _ h; exact h) (Or.inr ⟨by kernel_rfl, rfl⟩) (by assumption) ?_
    simp only [Act.put, List.setIfInBounds_toArray, List.set_cons_zero, List.set_cons_succ, List.toList_toArray]
    refine wpAnyH_take (i := 5) (v := undef) (by simp only [List.getElem?_toArray, List.getElem?_cons_succ, List.getElem?_cons_zero]; exact rfl) (by kernel_rfl) (by kernel_rfl) (by kernel_rfl) (by intro _ _ _ h; exact h) (Or.inr ⟨by kernel_rfl, rfl⟩) (by assumption) ?_
    simp only [Act.put, List.setIfInBounds_toArray, List.set_cons_zero, List.set_cons_succ, List.toList_toArray]
    refine wpAnyH_take (i := 6) (v := .bool false) (by simp only [List.getElem?_toArray, List.getElem?_cons_succ, List.getElem?_cons_zero]; exact rfl) (by kernel_rfl) (by kernel_rfl) (by kernel_rfl) (by intro _ _ _ h; exact h) (Or.inl ⟨by kernel_rfl, by intro w hSw; go_simp⟩) (by assumption) ?_
    simp only [Act.put, List.setIfInBounds_toArray, List.set_cons_zero, List.set_cons_succ, List.toList_toArray]
    refine wpAnyH_take (i := 7) (v := .bool false) (by simp only [List.getElem?_toArray, List.getElem?_cons_succ, List.getElem?_cons_zero]; exact rfl) (by kernel_rfl) (by kernel_rfl) (by kernel_rfl) (by intro _ _ _ h; exact h) (Or.inl ⟨by kernel_rfl, by intro w hSw; go_simp⟩) (by assumption) ?_
    simp only [Act.put, List.setIfInBounds_toArray, List.set_cons_zero, List.set_cons_succ, List.toList_toArray]
    refine wpAnyH_done (by kernel_rfl) ?_ _
    try simp only [Act.put, List.setIfInBounds_toArray, List.set_cons_zero, List.set_cons_succ]
    go_wp2_with fail
    go_ret
    rw [HN.out]
    exact ⟨rfl, hHeld⟩
  | true =>
    have hvl := hv.symm
    have HGR : Hid (G = arr (gridR LL).flatten) := Lib.hid (by rw [HG.out, gridV_yes hvl])
    have HV := Lib.hid hvl
    have HEQ := Lib.hid (evF_grid hvl)
    have hiL : (Try.prog.info? 38).map (·.size) = some (ints (gridR LL).flatten).length := by rw [List.length_map, sq_len (gridR_sq hvl)]; exact T_info256
    clear hv hvl
    go_enter Try.func33, Try.ntmps33
    go_wp2_with (first
      | (go_at_call 38; refine (HPO.out _ h hB).mono ?_; rintro e w1 ⟨rfl, hb1⟩; have hbz := Blk.new w1 38 (arr zsq.flatten))
      | (refine wpList_store_row rfl 38 (.tmp 3) (.tmp 8) rfl w1.heap.size rfl G rfl 38 _ hbz hi2 hszv hone ?_))
    have hbb : Below w1.heap.size w1 ((w1.alloc (.cells (arr zsq.flatten) 38)).setRow w1.heap.size G) := below_setRow' ((Below.refl _ _).alloc (Nat.le_refl _) _) (Nat.le_refl _) _
    have hbz2 := hbz.row (vs := G)
    have hbt := hb1.trans (hbb.mono hb1.size)
    have hr0 := Blk.rangeQ (vs := ints (gridR LL).flatten) (by rw [HGR.out] at hbz2; exact hbz2)
    rw [← HGR.out] at hr0
    have hS0 : (fun w' => w'.rangeAt w1.heap.size 0 (ints (gridR LL).flatten) ∧ Below w.heap.size w w') ((w1.alloc (.cells (arr zsq.flatten) 38)).setRow w1.heap.size G).drew := ⟨hr0, hbt.trans ((Dr.n _ 1).below _)⟩
    refine wp_region_held_drew (S := fun w' => w'.rangeAt w1.heap.size 0 (ints (gridR LL).flatten) ∧ Below w.heap.size w w') (by kernel_rfl) hS0 (fun hHeld => ?_)
    refine wpAnyH_take (i := 0) (v := .bool true) (by simp only [List.getElem?_toArray, List.getElem?_cons_succ, List.getElem?_cons_zero]; exact rfl) (by kernel_rfl) (by kernel_rfl) (by kernel_rfl) (by intro _ _ _ h; exact h) (Or.inl ⟨by kernel_rfl, by intro w hSw; go_simp⟩) (by assumption) ?_
    simp only [Act.put, List.setIfInBounds_toArray, List.set_cons_zero, List.set_cons_succ, List.toList_toArray]
    refine wpAnyH_take (i := 1) (v := .bool true) (by simp only [List.getElem?_toArray, List.getElem?_cons_succ, List.getElem?_cons_zero]; exact rfl) (by kernel_rfl) (by kernel_rfl) (by kernel_rfl) (by intro _ _ _ h; exact h) (Or.inl ⟨by kernel_rfl, by intro w hSw; go_simp⟩) (by assumption) ?_
    simp only [Act.put, List.setIfInBounds_toArray, List.set_cons_zero, List.set_cons_succ, List.toList_toArray]
    refine wpAnyH_take (i := 2) (v := .agg (arr (gridR LL).flatten)) (by simp only [List.getElem?_toArray, List.getElem?_cons_succ, List.getElem?_cons_zero]; exact rfl) (by kernel_rfl) (by kernel_rfl) (by kernel_rfl) (by intro _ _ _ h; exact h) (yieldsIf_load_mid (by kernel_rfl) _ _ rfl w1.heap.size 0 rfl (ints (gridR LL).flatten) _ (fun _ hw => hw.1) hup rfl hiL) (by assumption) ?_
    simp only [Act.put, List.setIfInBounds_toArray, List.set_cons_zero, List.set_cons_succ, List.toList_toArray]
    refine wpAnyH_take (i := 3) (v := .agg (arr (gridR LL).flatten)) (by simp only [List.getElem?_toArray, List.getElem?_cons_succ, List.getElem?_cons_zero]; exact rfl) (by kernel_rfl) (by kernel_rfl) (by kernel_rfl) (by intro _ _ _ h; exact h) (yieldsIf_load_mid (by kernel_rfl) _ _ rfl w1.heap.size 0 rfl (ints (gridR LL).flatten) _ (fun _ hw => hw.1) hup rfl hiL) (by assumption) ?_
    simp only [Act.put, List.setIfInBounds_toArray, List.set_cons_zero, List.set_cons_succ, List.toList_toArray]
    refine wpAnyH_ready (rs := [4]) (by kernel_rfl) (by simp) ?_
    refine AllReadyH.cons (o := _) (by simp only [List.getElem?_toArray, List.getElem?_cons_succ, List.getElem?_cons_zero]; exact rfl) (fun K hK => ?_) AllReadyH.nil
    rw [if_pos (by rfl)]
    go_simp
    go_at_call 42
    refine (pturned_any LL HV.out _).mono ?_
    rintro e w2 ⟨rfl, hb2⟩
    refine hK.out _ _ ⟨range_below hHeld.1 hb2, hHeld.2.trans (hb2.mono hHeld.2.size)⟩ (fun hH2 => ?_)
    clear hK K
    try simp only [Act.put, List.setIfInBounds_toArray, List.set_cons_zero, List.set_cons_succ, List.toList_toArray]
    refine wpAnyH_take (i := 5) (v := .bool (evF LL)) (by simp only [List.getElem?_toArray, List.getElem?_cons_succ, List.getElem?_cons_zero]; exact rfl) (by kernel_rfl) (by kernel_rfl) (by kernel_rfl) (by intro _ _ _ h; exact h) (Or.inl ⟨by kernel_rfl, fun w _ => by rw [← HEQ.out]; exact exec_eql 38 38 (.tmp 12) (.tmp 14) rfl rfl rfl hgt (T_eqP (gridR LL) (gridR (turnP LL)) (gridR_sq HV.out) (gridR_sq (vpl_turn HV.out)) w)⟩) (by assumption) ?_
    simp only [Act.put, List.setIfInBounds_toArray, List.set_cons_zero, List.set_cons_succ, List.toList_toArray]
    refine wpAnyH_take (i := 6) (v := .bool (evF LL)) (by simp only [List.getElem?_toArray, List.getElem?_cons_succ, List.getElem?_cons_zero]; exact rfl) (by kernel_rfl) (by kernel_rfl) (by kernel_rfl) (by intro _ _ _ h; exact h) (Or.inl ⟨by kernel_rfl, by intro w hSw; go_simp⟩) (by assumption) ?_
    simp only [Act.put, List.setIfInBounds_toArray, List.set_cons_zero, List.set_cons_succ, List.toList_toArray]
    refine wpAnyH_take (i := 7) (v := .bool (evF LL)) (by simp only [List.getElem?_toArray, List.getElem?_cons_succ, List.getElem?_cons_zero]; exact rfl) (by kernel_rfl) (by kernel_rfl) (by kernel_rfl) (by intro _ _ _ h; exact h) (Or.inl ⟨by kernel_rfl, by intro w hSw; go_simp⟩) (by assumption) ?_
    simp only [Act.put, List.setIfInBounds_toArray, List.set_cons_zero, List.set_cons_succ, List.toList_toArray]
    refine wpAnyH_done (by kernel_rfl) ?_ _
    try simp only [Act.put, List.setIfInBounds_toArray, List.set_cons_zero, List.set_cons_succ]
    go_wp2_with fail
    go_ret
    exact ⟨rfl, hH2.2⟩
end Go.Proofs.Ytnheolhgdinjgaa
namespace Go.Proofs.Ytnheolhgdinjgaa
open Go.RowKit NP
set_option maxRecDepth 100000
set_option linter.unusedVariables false
set_option linter.unusedSimpArgs false
theorem cnt_tk {L : List Int} {m : Nat} (h : m < L.length) (q : Int) : cnt q (L.take (m + 1)) = cnt q (L.take m) + if q ≤ L[m] then 1 else 0 := cnt_take_succ q L m h
set_option maxHeartbeats 4000000 in
theorem sLayersOf_any (a : Option Addr) (c B : Nat) (LL : List (List Int)) (w : World) (h : RdLL w B a LL) (hB : B ≤ w.heap.size) (hn : LL.length ≤ 1099511627776) (hil : ∀ L ∈ LL, L.length ≤ 4611686018427387904) :
    Calls Try.prog 29 #[.slice a LL.length c] w fun e w' => ∃ a' c' us, e = .returned (.slice a' (lpF LL).length c') ∧ OwnLL w' w.heap.size w'.heap.size 31 3 (.slice a' (lpF LL).length c') us (lpF LL) ∧ Below w.heap.size w w' := by
  have HIL := Lib.hid hil
  clear hil
  have HPO := Lib.hid (fun w h => validPile_any a c B LL w h hn HIL.out)
  obtain ⟨i0, hi, hx0, hx1, hx2⟩ := T_int'
  obtain ⟨i1, hj, hy0, hy1, hy2⟩ := info_parts T_intsM
  obtain ⟨v, hv⟩ : ∃ v, v = vpl LL := ⟨_, rfl⟩
  rw [← hv] at HPO
  cases v with
  | false =>
    have HF := Lib.hid (lpF_no hv.symm)
    clear hv
    go_enter Try.func29, Try.ntmps29
    go_wp2_with (go_at_call 36; refine (HPO.out _ h).mono ?_; rintro e w1 ⟨rfl, hd1⟩)
    go_ret
    rw [HF.out]
    exact ⟨none, 0, [], rfl, OwnLL.nil _ _ _ _, hd1.below _⟩
  | true =>
    have HV := Lib.hid hv.symm
    have HY : Hid (lpF LL = layS LL) := Lib.hid (by rw [lpF_yes hv.symm, layS_eq hv.symm])
    have hlen := vpl_len hv.symm
    clear hv
    go_enter Try.func29, Try.ntmps29
    go_wp2_with (go_at_call 36; refine (HPO.out _ h).mono ?_; rintro e w1 ⟨rfl, hd1⟩)
    have hw1 := hd1.size
    have hA1 := hd1.below w.heap.size
    obtain ⟨n0, hn0⟩ : ∃ n, n = (gr LL 0 0).toNat := ⟨_, rfl⟩
    have hg0 : (n0 : Int) = gr LL 0 0 := by
      have := (fal_of_valid (vpl_valid HV.out 0)).nn 0
      show (n0 : Int) = (LL.getD 0 []).getD 0 0
      rw [hn0]
      show (((LL.getD 0 []).getD 0 0).toNat : Int) = _
      omega
    have HTS : Hid (layS LL = (List.range n0).map (layR LL)) := Lib.hid (by rw [hn0]; rfl)
    have hn16 : n0 ≤ 16 := by
      have h1 := headD_bd (vpl_valid HV.out 0)
      have h2 : (LL.getD 0 []).headD 0 = gr LL 0 0 := by unfold gr; cases LL.getD 0 [] <;> rfl
      omega
    have HG0 := Lib.hid hg0
    clear hn0 hg0
    go_loopw [3, 4] (fun v i wr => ∃ k : Nat, k ≤ n0 ∧ i = .int .i64 ((k : Int) + 1) ∧ Below w.heap.size w wr ∧ ∃ vs, OwnLL wr w.heap.size wr.heap.size 31 3 v vs ((List.range k).map (layR LL))) (fun _ i _ => 20 - (intOf i).toNat)
    case atStart => exact ⟨0, Nat.zero_le _, rfl, hA1.alloc (by omega) _, [], (OwnLL.empty w1 31 3).more.lower (by omega)⟩
    case round =>
      obtain ⟨k, hk, rfl, hbel, vs, hLL⟩ := hrel
      obtain ⟨wo, rfl⟩ : ∃ wo : World, wo = wr := ⟨_, rfl⟩
      clear hA1 hw1
      have hvl := hLL.len
      rw [List.length_map, List.length_range] at hvl
      have hvs : vs.length ≤ 16 := by omega
      have hbs := hbel.size
      clear hvl
      by_cases hz : LL.length = 0
      · have hz' : decide (0 < LL.length) = false := decide_eq_false (by omega)
        have hn00 : n0 = 0 := by
          have h1 : gr LL 0 0 = 0 := by unfold gr; rw [gl_ge (by omega)]; rfl
          have := HG0.out
          omega
        have hk0 : k = 0 := by omega
        subst hk0
        have HE : Hid (lpF LL = (List.range 0).map (layR LL)) := Lib.hid (by rw [HY.out, HTS.out, hn00])
        obtain ⟨a', c', rfl⟩ := hLL.form
        have HO := Lib.hid hLL
        clear hLL hz hn00
        go_wp2_with fail
        go_ret
        rw [HE.out]
        exact ⟨a', c', vs, rfl, HO.out, hbel⟩
      · have hz' : decide (0 < LL.length) = true := decide_eq_true (by omega)
        have hz0 : 0 < LL.length := by omega
        obtain ⟨b0, o0, a0, c0, rfl, -, hc0, hr0, -⟩ := ((h.more hB).below hbel).at_ hz0
        have hne0 : 0 < LL[0].length := by
          have h1 := ((vpl_iff.1 HV.out).1 0 hz0).2.1
          rw [gl_lt hz0] at h1
          exact List.length_pos_iff.2 h1
        obtain ⟨b9, o9, rfl, -, hc9⟩ := hr0.at_ hne0
        have hxx : LL[0][0] = (n0 : Int) := by
          rw [HG0.out]
          unfold gr
          rw [gl_lt hz0, getD_lt hne0]
        rw [hxx, Nat.add_zero] at hc9
        rw [Nat.add_zero] at hc0
        have hne0' : (0 : Int) < (LL[0].length : Int) := by omega
        clear hxx hz hr0
        have hzi : (0 : Int) < (LL.length : Int) := by omega
        obtain ⟨m0, hm0⟩ : ∃ m, m = LL[0].length := ⟨_, rfl⟩
        rw [← hm0] at hc0 hne0 hne0'
        clear hm0
        by_cases hkn : k < n0
        · have hkn' : (k : Int) + 1 ≤ (n0 : Int) := by omega
          have HO := Lib.hid hLL
          clear hLL
          have HX := Lib.hid (layS_take LL k)
          go_wp2_with fail
          go_loopw [5, 6] (fun v i wr => ∃ q : Nat, q ≤ LL.length ∧ i = .int .i64 q ∧ Below wo.heap.size wo wr ∧ Own wr wo.heap.size wr.heap.size 3 v (ints (layR (LL.take q) k))) (fun _ i _ => 20 - (intOf i).toNat)
          case atStart => exact ⟨0, Nat.zero_le _, rfl, (Below.refl _ _).alloc (Nat.le_refl _) _, by rw [layR_zero]; exact (Own.empty wo 3).more⟩
          case round =>
            obtain ⟨q, hq, rfl, hbq, hown⟩ := hrel
            by_cases hql : q < LL.length
            · have hql' : (q : Int) < (LL.length : Int) := by omega
              obtain ⟨b1, o1, a1, c1, e1, -, hc1, hr1, -⟩ := ((h.more hB).below (hbel.trans (hbq.mono hbs))).at_ hql
              injection e1 with e1; injection e1 with e2 e3; subst e2 e3
              have HCS := Lib.hid (layR_succ hql k)
              have hl16 := vpl_l16 HV.out _ (List.getElem_mem hql)
              obtain ⟨L, hL⟩ : ∃ L, L = LL[q] := ⟨_, rfl⟩
              rw [← hL] at hc1 hr1 HCS hl16
              clear hL hc0 hc9
              obtain ⟨ws, hws⟩ : ∃ ws, ws = ints (layR (LL.take q) k) := ⟨_, rfl⟩
              have hlv : ws.length ≤ 16 := by rw [hws, List.length_map]; have := layR_len (LL.take q) k; rw [List.length_take] at this; omega
              rw [← hws] at hown
              have HVS := Lib.hid hws
              have HOW := Lib.hid hown
              clear hws hown
              have hqs := hbq.size
              go_wp2_with fail
              go_loop [7, 8] (fun vn vi => ∃ m : Nat, m ≤ L.length ∧ vi = .int .i64 m ∧ vn = .int .i64 (cnt ((k : Int) + 1) (L.take m))) (fun _ vi => 20 - (intOf vi).toNat)
              case atStart => exact ⟨0, Nat.zero_le _, rfl, rfl⟩
              case round =>
                obtain ⟨m, hm, rfl, rfl⟩ := hrel
                have hcb := cnt_bd ((k : Int) + 1) (L.take m)
                have hcl : (L.take m).length ≤ 16 := by rw [List.length_take]; omega
                by_cases hml : m < L.length
                · have hml' : (m : Int) < (L.length : Int) := by omega
                  obtain ⟨b2, o2, rfl, -, hc2⟩ := hr1.at_ hml
                  have HCT := Lib.hid (cnt_tk hml ((k : Int) + 1))
                  generalize L[m] = x at *
                  by_cases hkx : (k : Int) + 1 ≤ x
                  · go_wp2_with fail
                    go_round
                    case rel => exact ⟨m + 1, by omega, by go_num, by rw [HCT.out, if_pos hkx]⟩
                    case measure => simp [intOf]; omega
                  · have hkx' : decide ((k : Int) + 1 ≤ x) = false := decide_eq_false hkx
                    go_wp2_with fail
                    go_round
                    case rel => exact ⟨m + 1, by omega, by go_num, by rw [HCT.out, if_neg hkx, Int.add_zero]⟩
                    case measure => simp [intOf]; omega
                · obtain rfl : m = L.length := by omega
                  rw [List.take_of_length_le (Nat.le_refl _)] at hcb ⊢
                  obtain ⟨x, hx⟩ : ∃ x, x = cnt ((k : Int) + 1) L := ⟨_, rfl⟩
                  rw [← hx] at HCS hcb ⊢
                  clear hx hcl
                  by_cases hxp : 0 < x
                  · go_wp2_with (at_builtin; refine wpList_append_o _ rfl (.tmp 56) (.tmp 58) 31 rfl wo.heap.size wr.heap.size 3 i0 (.int .i64 0) 8 Try.underlying31 hi hx0 hx1 hx2 rfl _ ws rfl (HOW.out.alloc _) (wr.heap.size + 1) (some ⟨wr.heap.size, 0, none⟩) 1 1 [.int .i64 x] rfl (Rd.one wr _ _) rfl (by simp; rfl) (by unfold maxLen; omega) (by omega) (by simp; omega) ?_; intro v' w2 ho1 hg1 hat1)
                    go_roundw
                    case rel =>
                      refine ⟨q + 1, by omega, by go_num, below_push hbq (Nat.le_refl _) hg1 HOW.out.base, ?_⟩
                      rw [HVS.out] at ho1
                      rw [HCS.out, if_pos hxp, ints, List.map_append]
                      simpa [ints] using ho1
                    case measure => simp [intOf] <;> omega
                  · have hxp' : decide (0 < x) = false := decide_eq_false hxp
                    go_wp2_with fail
                    go_roundw
                    case rel => exact ⟨q + 1, by omega, by go_num, hbq, by rw [HCS.out, if_neg hxp, List.append_nil, ← HVS.out]; exact HOW.out⟩
                    case measure => simp [intOf]; omega
            · obtain rfl : q = LL.length := by omega
              rw [List.take_of_length_le (Nat.le_refl _)] at hown
              obtain ⟨a5, c5, rfl⟩ := hown.form
              rw [List.length_map] at hown ⊢
              have hL2 := Lib.hid (HO.out.below hbq)
              have HU := Lib.hid hown
              have hqs := hbq.size
              clear hown
              obtain ⟨C, hC⟩ : ∃ C, C = layR LL k := ⟨_, rfl⟩
              rw [← hC] at HU HX ⊢
              clear hC hc0 hc9
              go_wp2_with (at_builtin; refine wpList_append_o _ rfl (.tmp 60) (.tmp 62) 22 rfl w.heap.size wr.heap.size 31 i1 (.slice none 0 0) 24 Try.underlying22 hj hy0 hy1 hy2 rfl _ vs rfl (hL2.out.more.outer.alloc _) (wr.heap.size + 1) (some ⟨wr.heap.size, 0, none⟩) 1 1 [.slice a5 C.length c5] rfl (Rd.one wr _ _) rfl (by intro u hu; rw [List.mem_singleton.1 hu]; rfl) (by unfold maxLen; omega) (by omega) (by rw [World.size_alloc]; omega) ?_; intro v' w6 ho6 hg6 hat6)
              go_roundw
              case rel =>
                refine ⟨k + 1, by omega, by go_num, below_push (hbel.trans (hbq.mono hbs)) (Nat.le_refl _) hg6 HO.out.outer.base, vs ++ [.slice a5 C.length c5], ?_⟩
                rw [HX.out]
                have e1 := (hL2.out.below ((Below.refl _ _).alloc (by omega) (.cells #[.slice a5 C.length c5] 31)))
                exact e1.append (HU.out.alloc (.cells #[.slice a5 C.length c5] 31)) (Nat.le_refl _) hbs (by simpa using ho6) hg6 hat6
              case measure => simp [intOf] <;> omega
        · have hk0 : k = n0 := by omega
          have hkn' : decide ((k : Int) + 1 ≤ (n0 : Int)) = false := decide_eq_false (by omega)
          have HE : Hid (lpF LL = (List.range k).map (layR LL)) := Lib.hid (by rw [HY.out, HTS.out, hk0])
          obtain ⟨a', c', rfl⟩ := hLL.form
          have HO := Lib.hid hLL
          clear hLL hkn hk0
          go_wp2_with fail
          go_ret
          rw [HE.out]
          exact ⟨a', c', vs, rfl, HO.out, hbel⟩
set_option maxHeartbeats 4000000 in
theorem sIsEvenPile_any (a : Option Addr) (c B : Nat) (LL : List (List Int)) (w : World) (h : RdLL w B a LL) (hB : B ≤ w.heap.size) (hn : LL.length ≤ 1099511627776) (hil : ∀ L ∈ LL, L.length ≤ 4611686018427387904) :
    Calls Try.prog 32 #[.slice a LL.length c] w fun e w' => e = .returned (.bool (evF LL)) ∧ Below w.heap.size w w' := by
  have HIL := Lib.hid hil
  clear hil
  have HPO := Lib.hid (fun w h => validPile_any a c B LL w h hn HIL.out)
  have HST := Lib.hid (fun w h hB => sTurnPile_any a c B LL w h hB hn HIL.out)
  obtain ⟨v, hv⟩ : ∃ v, v = vpl LL := ⟨_, rfl⟩
  rw [← hv] at HPO
  cases v with
  | false =>
    have HF := Lib.hid (evF_no hv.symm)
    clear hv
    go_enter Try.func32, Try.ntmps32
    go_wp2_with (go_at_call 36; refine (HPO.out _ h).mono ?_; rintro e w1 ⟨rfl, hd1⟩)
    go_ret
    exact ⟨ret_bool HF.out.symm, hd1.below _⟩
  | true =>
    have HV := Lib.hid hv.symm
    have hlen := vpl_len hv.symm
    have HTV := Lib.hid (vpl_turn hv.symm)
    have htl := vpl_len HTV.out
    have HEV : Hid (evF LL = decide (turnP LL = LL)) := Lib.hid (by unfold evF; rw [hv.symm, Bool.true_and])
    have hTF := tpF_yes hv.symm
    rw [hTF] at HST
    clear hv hTF
    have HL1 := Lib.hid (vpl_l16 HV.out)
    have HL2 := Lib.hid (vpl_l16 HTV.out)
    obtain ⟨T, hT⟩ : ∃ T, T = turnP LL := ⟨_, rfl⟩
    rw [← hT] at HST HTV htl HEV HL2
    clear hT
    go_enter Try.func32, Try.ntmps32
    go_wp2_with (first
      | (go_at_call 36; refine (HPO.out _ h).mono ?_; rintro e w1 ⟨rfl, hd1⟩; have hw1 := hd1.size; have hBw : B ≤ w1.heap.size := by omega)
      | (go_at_call 24; refine (HST.out _ (h.dr hd1) hBw).mono ?_; rintro e w2 ⟨a2, c2, us, rfl, ho2, hb2⟩; have HO2 := Lib.hid ho2; clear ho2))
    have hbt : Below w.heap.size w w2 := (hd1.below _).trans (hb2.mono (by omega))
    have hR := (h.more hB).below hbt
    have hRT := HO2.out.rd
    go_loopw [4] (fun vi wr => ∃ k : Nat, k ≤ T.length ∧ k ≤ LL.length ∧ vi = .int .i64 k ∧ Dr w2 wr ∧ Hid (∀ j (h1 : j < T.length) (h2 : j < LL.length), j < k → T[j] = LL[j])) (fun vi _ => 20 - (intOf vi).toNat)
    case atStart => exact ⟨0, Nat.zero_le _, Nat.zero_le _, rfl, Dr.refl _, Lib.hid fun j h1 h2 hj => by omega⟩
    case round =>
      obtain ⟨k, hk1, hk2, rfl, hdr, HP⟩ := hrel
      by_cases hlt1 : k < T.length
      · have hlt1' : (k : Int) < (T.length : Int) := by omega
        by_cases hlt2 : k < LL.length
        · have hlt2' : (k : Int) < (LL.length : Int) := by omega
          obtain ⟨b1, o1, a1, c1, rfl, -, hc1, hr1, -⟩ := (hR.dr hdr).at_ hlt2
          obtain ⟨b3, o3, a3, c3, rfl, -, hc3, hr3, -⟩ := (hRT.dr hdr).at_ hlt1
          have hl1 := HL1.out _ (List.getElem_mem hlt2)
          have hl2 := HL2.out _ (List.getElem_mem hlt1)
          have HNE : Hid (T[k] ≠ LL[k] → decide (T = LL) = false) := Lib.hid (fun hne => decide_eq_false (fun e => hne (by simp only [e])))
          obtain ⟨L, hL⟩ : ∃ L, L = LL[k] := ⟨_, rfl⟩
          obtain ⟨M, hM⟩ : ∃ M, M = T[k] := ⟨_, rfl⟩
          rw [← hL] at hc1 hr1 hl1 HNE
          rw [← hM] at hc3 hr3 hl2 HNE
          have HSM : Hid (∀ n, Calls Try.prog 52 #[.slice a3 M.length c3, .slice a1 L.length c1] (wr.drewN n) fun e w'' => e = .returned (.bool (decide (M = L))) ∧ ∃ m, w'' = wr.drewN m) := Lib.hid (fun n => Calls.quiet_of (sameL_any a3 a1 c3 c1 _ _ M L (by omega) _ (hr3.dr (Dr.n _ n)) (hr1.dr (Dr.n _ n)) (by omega)))
          have HML : Hid (M = L → T[k] = LL[k]) := Lib.hid (fun e => by rw [← hL, ← hM, e])
          by_cases hML : M = L
          · rw [decide_eq_true hML] at HSM
            have HE := Lib.hid (HML.out hML)
            clear hL hM hML
            go_wp2_with fail
            go_quiet ((go_at_call 52; exact HSM.out _))
            go_wp2_with fail
            go_roundw
            case rel => exact ⟨k + 1, by omega, by omega, by go_num, hdr.drewN _, Lib.hid fun j h1 h2 hj => by
              rcases Nat.lt_or_ge j k with h | h
              · exact HP.out j h1 h2 h
              · obtain rfl : j = k := by omega
                exact HE.out⟩
            case measure => simp [intOf]; omega
          · rw [decide_eq_false hML] at HSM
            have HE := Lib.hid (HNE.out hML)
            clear hL hM hML
            go_wp2_with fail
            go_quiet ((go_at_call 52; exact HSM.out _))
            go_wp2_with fail
            go_ret
            exact ⟨ret_bool (by rw [HEV.out, HE.out]), hbt.trans ((hdr.drewN _).below _)⟩
        · have hlt2' : decide (k < LL.length) = false := decide_eq_false hlt2
          have HE : Hid (decide (T = LL) = false) := Lib.hid (decide_eq_false (fun e => by rw [e] at hlt1; exact hlt2 hlt1))
          have hne : ((T.length : Int) == (LL.length : Int)) = false := beq_eq_false_iff_ne.2 (by omega)
          go_wp2_with fail
          go_ret
          exact ⟨ret_bool (by rw [HEV.out, HE.out]), hbt.trans (hdr.below _)⟩
      · have hlt1' : decide (k < T.length) = false := decide_eq_false hlt1
        by_cases hll : T.length = LL.length
        · have HE : Hid (decide (T = LL) = true) := Lib.hid (decide_eq_true (List.ext_getElem hll (fun j h1 h2 => HP.out j h1 h2 (by omega))))
          have hne : ((T.length : Int) == (LL.length : Int)) = true := beq_iff_eq.2 (by omega)
          clear hll
          go_wp2_with fail
          go_ret
          exact ⟨ret_bool (by rw [HEV.out, HE.out]), hbt.trans (hdr.below _)⟩
        · have HE : Hid (decide (T = LL) = false) := Lib.hid (decide_eq_false (fun e => hll (by rw [e])))
          have hne : ((T.length : Int) == (LL.length : Int)) = false := beq_eq_false_iff_ne.2 (by omega)
          clear hll
          go_wp2_with fail
          go_ret
          exact ⟨ret_bool (by rw [HEV.out, HE.out]), hbt.trans (hdr.below _)⟩
end Go.Proofs.Ytnheolhgdinjgaa
namespace Go.Proofs.Ytnheolhgdinjgaa
open Go.RowKit NP
set_option maxRecDepth 8000
set_option linter.unusedVariables false
/-- but for block g and those from lo to hi, nothing has turned -/
structure Chg2 (g lo hi : Nat) (w w' : World) : Prop where
  os : w'.os = w.os
  tape : w'.tape = w.tape
  output : w'.output = w.output
  size : w.heap.size ≤ w'.heap.size
  block : ∀ k, k < w.heap.size → k ≠ g → (k < lo ∨ hi ≤ k) → w'.heap[k]? = w.heap[k]?
theorem Chg2.trans {g lo hi : Nat} {a b c : World} (h : Chg2 g lo hi a b) (k : Chg2 g lo hi b c) : Chg2 g lo hi a c :=
  ⟨k.os.trans h.os, k.tape.trans h.tape, k.output.trans h.output, Nat.le_trans h.size k.size, fun i hi hne hd => (k.block i (by have := h.size; omega) hne hd).trans (h.block i hi hne hd)⟩
theorem Chg2.of {g lo hi : Nat} {w w' : World} (h : w.grownBy w' (some g)) : Chg2 g lo hi w w' :=
  ⟨h.os, h.tape, h.output, h.size, fun k hk hne _ => h.block k hk (fun e => by injection e with e; exact hne e)⟩
theorem Chg2.ofBelow {g lo hi : Nat} {w w' : World} (h : Below w.heap.size w w') : Chg2 g lo hi w w' := ⟨h.os, h.tape, h.output, h.size, fun k hk _ _ => h.block k hk⟩
theorem Chg2.set {g lo hi : Nat} {w : World} {p : Addr} (v : Value) (h1 : lo ≤ p.block) (h2 : p.block < hi) : Chg2 g lo hi w (w.setCell p v) :=
  ⟨rfl, rfl, rfl, by simp [World.setCell], fun k _ _ hd => Below.heap_setCell w p v k (by rintro rfl; omega)⟩
theorem Chg2.push {g lo hi : Nat} {w0 w w1 : World} {o : Obj} {row : Option Nat} (h : Chg2 g lo hi w0 w) (hg : (w.alloc o).grownBy w1 row) (hr : ∀ k, row = some k → lo ≤ k ∧ k < hi) : Chg2 g lo hi w0 w1 :=
  (h.trans (.ofBelow ((Below.refl _ w).alloc (Nat.le_refl _) o))).trans ⟨hg.os, hg.tape, hg.output, hg.size, fun k hk hne hd => hg.block k hk (fun e => by have := hr k e.symm; omega)⟩
set_option maxHeartbeats 400000 in
theorem bent_at (g q lo hi : Nat) (a : Option Addr) (c : Nat) (M : List Int) (bs : List Int) (w : World) (hq : q ≤ 900000) (h : Rdr w g bs q) (hs : SmallParts M) (hhi : hi ≤ w.heap.size) (ho : Own w lo hi 3 (.slice a M.length c) (ints M)) (hlo : g < lo) (hloW : lo ≤ w.heap.size) :
    Calls Try.prog 61 #[.pointer (some ⟨g, 0, none⟩), .slice a M.length c] w fun e w' => ∃ a' c' M', e = .returned (.slice a' M'.length c') ∧ Own w' lo w'.heap.size 3 (.slice a' M'.length c') (ints M') ∧ Small M' ∧ (∃ q', q' ≤ q + 4 ∧ Rdr w' g bs q') ∧ Chg2 g lo hi w w' := by
  obtain ⟨i0, hib, hz0, hz1, hz2⟩ := T_int'
  have hlt := h.lt
  have hM16 := hs.1
  have HSM : Hid (Small M) := Lib.hid ⟨by omega, fun x hx => by have := hs.2 x hx; omega⟩
  have HS := Lib.hid hs
  clear hs
  have HO := Lib.hid ho
  clear ho
  go_enter Try.func61, Try.ntmps61
  go_wp2_with fail
  refine (pick_any g _ _ bs _ (by omega) (by omega) h).mono ?_
  rintro e w1 ⟨y, rfl, hy0, hy1, h1, hg1, -⟩
  clear hy1
  have hb1 : Chg2 g lo hi w w1 := .of hg1
  have hz1' := hb1.size
  have hown1 := HO.out.chg hg1 hlo
  clear HO hg1
  have hlt1 := h1.lt
  by_cases h0 : y = 0
  · subst h0
    by_cases hM0 : 0 < M.length
    · have hM0' : (0 : Int) < (M.length : Int) := by omega
      have HO1 := Lib.hid hown1
      clear hown1
      go_wp2_with fail
      refine (pick_any g _ _ bs _ (by omega) (by omega) h1).mono ?_
      rintro e w2 ⟨y2, rfl, hy20, hy21, h2, hg2, -⟩
      obtain ⟨y2, rfl⟩ := Int.eq_ofNat_of_zero_le hy20
      have hyM : y2 < M.length := by have := hy21 (by omega); omega
      clear hy21
      have HO2 := Lib.hid (HO1.out.chg hg2 hlo)
      have hlt2 := h2.lt
      have hb2 : Chg2 g lo hi w w2 := hb1.trans (.of hg2)
      clear HO1 hg2
      go_wp2_with fail
      refine (one_any g _ _ _ _ [0, -1, 17, 9] bs _ (by simp) (by simp) (by omega) (h2.below ((Below.refl _ _).alloc hlt2 _)) (rd_new w2 _ _) (by intro b o e; injection e with e; injection e with e; omega)).mono ?_
      rintro e w3 ⟨k, hk, rfl, h3, hg3, -⟩
      have hx : ∀ x ∈ ([0, -1, 17, 9] : List Int), -1 ≤ x ∧ x ≤ 17 := by decide
      have hx1 := hx _ (List.getElem_mem hk)
      obtain ⟨x, hxx⟩ : ∃ x, x = ([0, -1, 17, 9] : List Int)[k] := ⟨_, rfl⟩
      rw [← hxx] at hx1 ⊢
      clear hx hxx hk
      have hown3 := (HO2.out.alloc (.cells (ints [0, -1, 17, 9]).toArray 3)).chg hg3 hlo
      have hsz2 := hb2.size
      have hb3 : Chg2 g lo hi w w3 := (hb2.trans (.ofBelow ((Below.refl _ w2).alloc (Nat.le_refl _) _))).trans (.of hg3)
      clear HO2 hg3
      obtain ⟨g2, u, rfl, hlo2, hhi2, hc2, hf2⟩ := hown3.spot (k := y2) (by simpa using hyM)
      have HO3 := Lib.hid hown3
      clear hown3
      have hcs : ∀ v, Chg2 g lo hi w (w3.setCell ⟨g2, y2, none⟩ v) := fun v => hb3.trans (.set _ hlo2 hhi2)
      have HCS := Lib.hid hcs
      clear hcs
      have HRS : Hid (∀ v, Rdr (w3.setCell ⟨g2, y2, none⟩ v) g bs (q + 1 + 1 + 1)) := Lib.hid fun v => h3.below ((Below.refl _ _).setCell (by show g + 1 ≤ g2; omega) v)
      go_wp2_with fail
      go_ret
      have e := HO3.out.set y2 (.int .i64 x)
      have hset : (ints M).set y2 (.int .i64 x) = ints (M.set y2 x) := by simp [ints, List.map_set]
      rw [hset] at e
      refine ⟨some ⟨g2, 0, none⟩, c, M.set y2 x, by simp, by simpa using e.more, ⟨by simpa using HSM.out.1, fun z hz => ?_⟩, ⟨_, by omega, HRS.out _⟩, HCS.out _⟩
      rcases List.mem_or_eq_of_mem_set hz with hz | rfl
      · exact HSM.out.2 z hz
      · exact hx1
    · have hM0' : (M.length : Int) ≤ 0 := by omega
      have hd0 : decide (0 < M.length) = false := decide_eq_false hM0
      have HO1 := Lib.hid hown1
      clear hown1
      go_wp2_with fail
      go_ret
      exact ⟨a, c, M, rfl, HO1.out.more, HSM.out, ⟨q + 1, by omega, h1⟩, hb1⟩
  · have e0 : (y == 0) = false := by simp; omega
    by_cases h1' : y = 1
    · subst h1'
      have hlo1 : lo ≤ w1.heap.size := by
        rcases hown1.row.2 with ⟨_, h⟩ | ⟨g2, cap, cur, _, hb, hg, _⟩
        · exact Nat.le_trans hloW hb1.size
        · have := (Array.getElem?_eq_some_iff.1 hg).1; omega
      have hlen2 : (ints M).length = M.length := by simp
      go_wp2_with (at_builtin; refine wpList_append_o _ rfl (.tmp 23) (.tmp 24) 31 rfl lo hi 3 i0 (.int .i64 0) 8 Try.underlying31 hib hz0 hz1 hz2 rfl _ (ints M) rfl (hown1.alloc _) (w1.heap.size + 1) (some ⟨w1.heap.size, 0, none⟩) 1 1 (ints [9]) rfl (rd_new w1 _ _) rfl (ints_one _) (by rw [hlen2]; unfold maxLen; omega) (by rw [hlen2]; omega) (by simp; omega) ?_; intro v' w3 ho3 hg3 hat3)
      go_ret
      have e : ints M ++ ints [9] = ints (M ++ [9]) := by simp [ints]
      rw [e] at ho3
      obtain ⟨a', c', rfl⟩ := ho3.form
      have hl3 : (ints (M ++ [9])).length = (M ++ [9]).length := by simp
      rw [hl3] at ho3 ⊢
      refine ⟨a', c', M ++ [9], rfl, ho3, ⟨by simp; omega, fun x hx => ?_⟩, ⟨q + 1, by omega, (h1.row (World.grownBy_alloc w1 _ none) (by simp)).row hg3 (fun k hk => by have := hown1.base k hk; omega)⟩, hb1.push hg3 (fun k hk => ⟨hown1.base k hk, hown1.lt k hk⟩)⟩
      rcases List.mem_append.1 hx with hx | hx
      · exact HSM.out.2 x hx
      · have : ∀ x ∈ ([9] : List Int), -1 ≤ x ∧ x ≤ 17 := by decide
        exact this x hx
    · have e1 : (y == 1) = false := by simp; omega
      by_cases h2' : y = 2
      · subst h2'
        have hlo1 : lo ≤ w1.heap.size := by
          rcases hown1.row.2 with ⟨_, h⟩ | ⟨g2, cap, cur, _, hb, hg, _⟩
          · exact Nat.le_trans hloW hb1.size
          · have := (Array.getElem?_eq_some_iff.1 hg).1; omega
        have hlen2 : (ints M).length = M.length := by simp
        go_wp2_with (at_builtin; refine wpList_append_o _ rfl (.tmp 28) (.tmp 29) 31 rfl lo hi 3 i0 (.int .i64 0) 8 Try.underlying31 hib hz0 hz1 hz2 rfl _ (ints M) rfl (hown1.alloc _) (w1.heap.size + 1) (some ⟨w1.heap.size, 0, none⟩) 16 16 (ints [1, 1, 1, 1, 1, 1, 1, 1, 1, 1, 1, 1, 1, 1, 1, 1]) rfl (rd_new w1 _ _) rfl (ints_one _) (by rw [hlen2]; unfold maxLen; omega) (by rw [hlen2]; omega) (by simp; omega) ?_; intro v' w3 ho3 hg3 hat3)
        go_ret
        have e : ints M ++ ints [1, 1, 1, 1, 1, 1, 1, 1, 1, 1, 1, 1, 1, 1, 1, 1] = ints (M ++ [1, 1, 1, 1, 1, 1, 1, 1, 1, 1, 1, 1, 1, 1, 1, 1]) := by simp [ints]
        rw [e] at ho3
        obtain ⟨a', c', rfl⟩ := ho3.form
        have hl3 : (ints (M ++ [1, 1, 1, 1, 1, 1, 1, 1, 1, 1, 1, 1, 1, 1, 1, 1])).length = (M ++ [1, 1, 1, 1, 1, 1, 1, 1, 1, 1, 1, 1, 1, 1, 1, 1]).length := by simp
        rw [hl3] at ho3 ⊢
        refine ⟨a', c', M ++ [1, 1, 1, 1, 1, 1, 1, 1, 1, 1, 1, 1, 1, 1, 1, 1], rfl, ho3, ⟨by simp; omega, fun x hx => ?_⟩, ⟨q + 1, by omega, (h1.row (World.grownBy_alloc w1 _ none) (by simp)).row hg3 (fun k hk => by have := hown1.base k hk; omega)⟩, hb1.push hg3 (fun k hk => ⟨hown1.base k hk, hown1.lt k hk⟩)⟩
        rcases List.mem_append.1 hx with hx | hx
        · exact HSM.out.2 x hx
        · have : ∀ x ∈ ([1, 1, 1, 1, 1, 1, 1, 1, 1, 1, 1, 1, 1, 1, 1, 1] : List Int), -1 ≤ x ∧ x ≤ 17 := by decide
          exact this x hx
      · have e2 : (y == 2) = false := by simp; omega
        have HO1 := Lib.hid hown1
        clear hown1
        go_wp2_with fail
        go_ret
        exact ⟨a, c, M, rfl, HO1.out.more, HSM.out, ⟨q + 1, by omega, h1⟩, hb1⟩
end Go.Proofs.Ytnheolhgdinjgaa
namespace Go.Proofs.Ytnheolhgdinjgaa
open Go.RowKit NP
set_option maxRecDepth 8000
set_option linter.unusedVariables false
theorem keepD2 {wr wx w' : World} {p q : Addr} {x y : Value} (h1 : wx.cell? p = some x) (h2 : wx.cell? q = some y) (h3 : Dr wr wx) (hd : Dr wx w') : w'.cell? p = some x ∧ w'.cell? q = some y ∧ Dr wr w' := by
  obtain ⟨n, rfl⟩ := hd
  exact ⟨h1, h2, h3.drewN n⟩

theorem eqIntSS_same (a b : Option Addr) (ca cb Ba Bb : Nat) (LL : List (List Int)) (w : World) (h : RdLL w Ba a LL) (hm : RdLL w Bb b LL) (hl : LL.length ≤ 4611686018427387904) (hil : ∀ L ∈ LL, L.length ≤ 4611686018427387904) :
    Calls Try.prog 17 #[.slice a LL.length ca, .slice b LL.length cb] w fun e w' => e = .returned (.bool true) ∧ Dr w w' := by
  have hne : ((LL.length : Int) != (LL.length : Int)) = false := by simp
  go_enter Try.func17, Try.ntmps17
  go_wp2
  go_loopw [5] (fun i wr => ∃ k : Nat, k ≤ LL.length ∧ i = .int .i64 k ∧ Dr w wr) (fun i _ => LL.length - (intOf i).toNat)
  case atStart => exact ⟨0, Nat.zero_le _, rfl, Dr.refl _⟩
  case round =>
    obtain ⟨k, hk, rfl, hdr⟩ := hrel
    by_cases hlt : k < LL.length
    · obtain ⟨b1, o1, a1, c1, rfl, -, hc1, hr1, -⟩ := (h.dr hdr).at_ hlt
      obtain ⟨b2, o2, a2, c2, rfl, -, hc2, hr2, -⟩ := (hm.dr hdr).at_ hlt
      have hil' := hil LL[k] (List.getElem_mem hlt)
      clear hil h hm
      generalize LL[k] = M at hc1 hc2 hr1 hr2 hil'
      go_wp2_with fail
      go_region_held3 (fun w' => w'.cell? ⟨b1, o1 + k, none⟩ = some (.slice a1 M.length c1) ∧ w'.cell? ⟨b2, o2 + k, none⟩ = some (.slice a2 M.length c2) ∧ Dr wr w') (first | exact ⟨hc1, hc2, Dr.n wr 1⟩ | exact keepD2 (by assumption) (by assumption) (Dr.n wr 1) hd)
        (first | (go_at_call 39; refine (eqIntS_same a1 a2 c1 c2 Ba Bb M _ (hr1.dr (Dr.n wr 1)) (hr2.dr (Dr.n wr 1)) hil').mono ?_; rintro e w' ⟨rfl, hd⟩))
      have hdw : Dr wr w' := by obtain ⟨n, rfl⟩ := hd; exact (Dr.n wr 1).drewN n
      go_wp2_with fail
      go_roundw
      case rel => exact ⟨k + 1, by omega, by go_num, by obtain ⟨n, rfl⟩ := hdw; exact hdr.drewN n⟩
      case measure => simp [intOf]; omega
    · obtain rfl : k = LL.length := by omega
      go_wp2
      go_ret
      exact ⟨rfl, hdr⟩

theorem equalLists_same (a b : Option Addr) (ca cb Ba Bb : Nat) (LL : List (List Int)) (w : World) (h : RdLL w Ba a LL) (hm : RdLL w Bb b LL) (hl : LL.length ≤ 4611686018427387904) (hil : ∀ L ∈ LL, L.length ≤ 4611686018427387904) :
    Calls Try.prog 28 #[.slice a LL.length ca, .slice b LL.length cb] w fun e w' => e = .returned (.bool true) ∧ Dr w w' := by
  have hne : ((LL.length : Int) != (LL.length : Int)) = false := by simp
  go_enter Try.func28, Try.ntmps28
  go_wp2
  go_loopw [5] (fun i wr => ∃ k : Nat, k ≤ LL.length ∧ i = .int .i64 k ∧ Dr w wr) (fun i _ => LL.length - (intOf i).toNat)
  case atStart => exact ⟨0, Nat.zero_le _, rfl, Dr.refl _⟩
  case round =>
    obtain ⟨k, hk, rfl, hdr⟩ := hrel
    by_cases hlt : k < LL.length
    · obtain ⟨b1, o1, a1, c1, rfl, -, hc1, hr1, -⟩ := (h.dr hdr).at_ hlt
      obtain ⟨b2, o2, a2, c2, rfl, -, hc2, hr2, -⟩ := (hm.dr hdr).at_ hlt
      have hil' := hil LL[k] (List.getElem_mem hlt)
      clear hil h hm
      generalize LL[k] = M at hc1 hc2 hr1 hr2 hil'
      go_wp2_with fail
      go_region_held3 (fun w' => w'.cell? ⟨b1, o1 + k, none⟩ = some (.slice a1 M.length c1) ∧ w'.cell? ⟨b2, o2 + k, none⟩ = some (.slice a2 M.length c2) ∧ Dr wr w') (first | exact ⟨hc1, hc2, Dr.n wr 1⟩ | exact keepD2 (by assumption) (by assumption) (Dr.n wr 1) hd)
        (first | (go_at_call 49; refine (equalInts_same a1 a2 c1 c2 Ba Bb M _ (hr1.dr (Dr.n wr 1)) (hr2.dr (Dr.n wr 1)) hil').mono ?_; rintro e w' ⟨rfl, hd⟩))
      have hdw : Dr wr w' := by obtain ⟨n, rfl⟩ := hd; exact (Dr.n wr 1).drewN n
      go_wp2_with fail
      go_roundw
      case rel => exact ⟨k + 1, by omega, by go_num, by obtain ⟨n, rfl⟩ := hdw; exact hdr.drewN n⟩
      case measure => simp [intOf]; omega
    · obtain rfl : k = LL.length := by omega
      go_wp2
      go_ret
      exact ⟨rfl, hdr⟩
theorem markIntSS_any (a : Option Addr) (c lo hi : Nat) (m : Int) (LL : List (List Int)) (vs : List Value) (w : World) (h : OwnLL w lo hi 31 3 (.slice a LL.length c) vs LL) (hlo : lo ≤ hi) (hm : 0 ≤ m) (hm2 : m ≤ 1073741824) (hl : cntLL LL ≤ 1073741824) (hl2 : LL.length ≤ 1073741824) :
    Calls Try.prog 25 #[.slice a LL.length c, .int .i64 m] w fun e w' => e = .returned (.int .i64 (m + (cntLL LL : Int))) ∧ OwnLL w' lo hi 31 3 (.slice a LL.length c) vs (marksLL m LL) ∧ Below lo w w' := by
  go_enter Try.func25, Try.ntmps25
  go_wp2_with fail
  go_loopw [1, 5] (fun kk i wr => ∃ k : Nat, k ≤ LL.length ∧ i = .int .i64 k ∧ kk = .int .i64 (m + (cntLL (LL.take k) : Int)) ∧ Below lo w wr ∧ OwnLL wr lo hi 31 3 (.slice a LL.length c) vs (marksLL m (LL.take k) ++ LL.drop k)) (fun _ i _ => LL.length - (intOf i).toNat)
  case atStart => exact ⟨0, Nat.zero_le _, rfl, by simp [cntLL], Below.refl _ _, by simpa [marksLL] using h⟩
  case round =>
    obtain ⟨k, hk, rfl, rfl, hbr, hor⟩ := hrel
    clear h
    have hck := cntLL_take LL k
    by_cases hlt : k < LL.length
    · have hge : ∀ hh, (marksLL m (LL.take k) ++ LL.drop k)[k]'hh = LL[k] := fun hh => by
        have e1 : (marksLL m (LL.take k)).length = k := by rw [marksLL_len, List.length_take]; omega
        rw [List.getElem_append_right (by omega)]
        simp [e1]
      obtain ⟨g, a', c', rfl, hg1, hg2, hcell, hown, hvs⟩ := hor.at_ (k := k) (by simp [marksLL_len]; omega)
      rw [hge] at hcell hown hvs
      have hset := marksLL_set m hlt
      have hcs : cntLL (LL.take (k + 1)) = cntLL (LL.take k) + LL[k].length := by rw [List.take_succ_eq_append_getElem hlt, cntLL_append]
      have hck1 := cntLL_take LL (k + 1)
      rw [hcs] at hck1
      have HCS := Lib.hid hcs
      have HSET := Lib.hid hset
      have HOR := Lib.hid hor
      clear hge hcs hset hor
      generalize LL[k] = M at hcell hown hvs hck1 HCS HSET
      obtain ⟨q, hq⟩ : ∃ q : Int, q = m + (cntLL (LL.take k) : Int) := ⟨_, rfl⟩
      rw [← hq]
      have hq0 : 0 ≤ q ∧ q ≤ 2147483648 := by omega
      have HQ := Lib.hid hq
      clear hq
      go_wp2_with (go_at_call 47; refine (markIntS_any a' c' lo hi q M _ hown hq0.1 (by omega) (by omega)).mono ?_; rintro e w' ⟨rfl, ho', hgr⟩)
      go_roundw
      case rel =>
        have hnew := HOR.out.setIn hvs hgr (L := (List.range M.length).map fun (j : Nat) => q + (j : Int)) ho'
        rw [HQ.out, HSET.out] at hnew
        exact ⟨k + 1, by omega, by go_num, by rw [HCS.out, HQ.out]; congr 1; omega, hbr.trans (hown.belowMark (Nat.le_trans hlo hown.le) hgr), hnew⟩
      case measure => simp [intOf]; omega
    · obtain rfl : k = LL.length := by omega
      rw [List.take_length] at *
      go_wp2_with fail
      go_ret
      exact ⟨rfl, by simpa using hor, hbr⟩

theorem heldIntSS_any (a : Option Addr) (c B : Nat) (m : Int) (LL : List (List Int)) (w : World) (h : RdLL w B a (marksLL m LL)) (hm : 0 ≤ m) (hm2 : m ≤ 1073741824) (hl : cntLL LL ≤ 1073741824) (hl2 : LL.length ≤ 1073741824) :
    Calls Try.prog 26 #[.slice a LL.length c, .int .i64 m] w fun e w' => e = .returned (.int .i64 (m + (cntLL LL : Int))) ∧ w = w' := by
  go_enter Try.func26, Try.ntmps26
  go_wp2_with fail
  go_loopw [1, 5] (fun kk i wr => ∃ k : Nat, k ≤ LL.length ∧ i = .int .i64 k ∧ kk = .int .i64 (m + (cntLL (LL.take k) : Int)) ∧ w = wr) (fun _ i _ => LL.length - (intOf i).toNat)
  case atStart => exact ⟨0, Nat.zero_le _, rfl, by simp [cntLL], rfl⟩
  case round =>
    obtain ⟨k, hk, rfl, rfl, rfl⟩ := hrel
    have hck := cntLL_take LL k
    by_cases hlt : k < LL.length
    · have hge : ∀ hh, (marksLL m LL)[k]'hh = (List.range LL[k].length).map fun (j : Nat) => (m + (cntLL (LL.take k) : Int)) + (j : Int) := fun hh => by
        exact marksLL_get m LL k hlt hh
      obtain ⟨b, o, a', c', rfl, -, hcell, hr, -⟩ := h.at_ (k := k) (by rw [marksLL_len]; exact hlt)
      rw [hge] at hcell hr
      rw [List.length_map, List.length_range] at hcell
      have hcs : cntLL (LL.take (k + 1)) = cntLL (LL.take k) + LL[k].length := by rw [List.take_succ_eq_append_getElem hlt, cntLL_append]
      have hck1 := cntLL_take LL (k + 1)
      rw [hcs] at hck1
      have HCS := Lib.hid hcs
      clear hge hcs
      generalize LL[k] = M at hcell hr hck1 HCS
      obtain ⟨q, hq⟩ : ∃ q : Int, q = m + (cntLL (LL.take k) : Int) := ⟨_, rfl⟩
      rw [← hq] at hr ⊢
      have hq0 : 0 ≤ q ∧ q ≤ 2147483648 := by omega
      have hqn : decide (q + (M.length : Int) < 0) = false := decide_eq_false (by omega)
      have HQ := Lib.hid hq
      clear hq
      go_wp2_with (go_at_call 48; refine (heldIntS_any a' c' B M.length q _ hr hq0.1 (by omega) (by omega)).mono ?_; rintro e w' ⟨rfl, rfl⟩)
      go_roundw
      case rel => exact ⟨k + 1, by omega, by go_num, by rw [HCS.out, HQ.out]; congr 1; omega, trivial⟩
      case measure => simp [intOf]; omega
    · obtain rfl : k = LL.length := by omega
      rw [List.take_length] at *
      go_wp2_with fail
      go_ret
      exact ⟨rfl, rfl⟩
end Go.Proofs.Ytnheolhgdinjgaa
namespace Go.Proofs.Ytnheolhgdinjgaa
open Go.RowKit NP
set_option maxRecDepth 8000
set_option linter.unusedVariables false
set_option linter.unusedSimpArgs false
/-- a list put into its place: its block was made behind all others -/
theorem OwnLL.put {w : World} {lo hi lou : Nat} {eo e : TypeId} {g n c : Nat} {u : Value} {vs : List Value} {LL : List (List Int)} {L : List Int} (h : OwnLL w lo hi eo e (.slice (some ⟨g, 0, none⟩) n c) vs LL)
    (hu : Own w lou w.heap.size e u (ints L)) (hlou : hi ≤ lou) (hlo : lo ≤ lou) {k : Nat} (hk : k < vs.length) : OwnLL (w.setCell ⟨g, k, none⟩ u) lo w.heap.size eo e (.slice (some ⟨g, 0, none⟩) n c) (vs.set k u) (LL.set k L) := by
  have hgh : g < hi := h.outer.lt g rfl
  have hlen := h.len
  have hle := h.le
  refine ⟨h.outer.more.set k u, by rw [List.length_set, List.length_set]; exact hlen, fun j x M hx hM => ?_, fun j x q hx hq hv => ?_, fun i j x y q hx hy hqx hqy => ?_⟩
  · rw [List.getElem?_set] at hx hM
    by_cases hj : k = j
    · subst hj
      rw [if_pos rfl, if_pos hk] at hx
      rw [if_pos rfl, if_pos (by omega)] at hM
      cases hx; cases hM
      exact (hu.off (p := ⟨g, k, none⟩) (fun q hq e => by have := hu.base q hq; have e' : q = g := e; omega) u).lower hlo
    · rw [if_neg hj] at hx hM
      have hi' := h.inner j x M hx hM
      exact (hi'.more).off (p := ⟨g, k, none⟩) (fun q hq e => h.apartO j x q hx hq (by rw [e]; rfl)) u
  · rw [List.getElem?_set] at hx
    have hgq : g = q := by simp [Value.ownBlock] at hv; exact hv
    by_cases hj : k = j
    · subst hj
      rw [if_pos rfl, if_pos hk] at hx
      cases hx
      have := hu.base q hq
      omega
    · rw [if_neg hj] at hx
      exact h.apartO j x q hx hq hv
  · rw [List.getElem?_set] at hx hy
    by_cases hi : k = i
    · subst hi
      rw [if_pos rfl, if_pos hk] at hx
      cases hx
      by_cases hj : k = j
      · exact hj
      · rw [if_neg hj] at hy
        have h1 := h.lt hy hqy
        have h2 := hu.base q hqx
        omega
    · rw [if_neg hi] at hx
      by_cases hj : k = j
      · subst hj
        rw [if_pos rfl, if_pos hk] at hy
        cases hy
        have h1 := h.lt hx hqx
        have h2 := hu.base q hqy
        omega
      · rw [if_neg hj] at hy
        exact h.apart i j x y q hx hy hqx hqy
theorem own_nil2 (w : World) (lo hi : Nat) (e : TypeId) (h : hi ≤ w.heap.size) : Own w lo hi e (.slice none 0 0) [] :=
  ⟨World.ownsRow_nil w lo e 1, fun g hg => by simp [Value.ownBlock] at hg, h⟩
/-- a list of empty lists, laid anew -/
theorem OwnLL.zeros (w : World) (n : Nat) (eo e : TypeId) (hn : n ≤ maxLen) :
    OwnLL (w.alloc (.cells (List.replicate n (Value.slice none 0 0)).toArray eo)) w.heap.size (w.heap.size + 1) eo e (.slice (some ⟨w.heap.size, 0, none⟩) n n) (List.replicate n (Value.slice none 0 0)) (List.replicate n []) := by
  have hb := Blk.new w eo (List.replicate n (Value.slice none 0 0)).toArray
  have ho := hb.own (lo := w.heap.size) (vs := List.replicate n (Value.slice none 0 0)) (Nat.le_refl _) (by simpa using hn)
  rw [List.length_replicate, World.size_alloc] at ho
  refine ⟨ho, by simp, fun k u L hu hL => ?_, fun k u g hu hg => ?_, fun i j u u' g hu hu' hg => ?_⟩
  · have h1 := List.mem_of_getElem? hu
    have h2 := List.mem_of_getElem? hL
    rw [List.mem_replicate] at h1 h2
    rw [h1.2, h2.2]
    exact own_nil2 _ _ _ _ (by simp)
  · have h1 := List.mem_of_getElem? hu
    rw [List.mem_replicate] at h1
    rw [h1.2] at hg
    simp [Value.ownBlock] at hg
  · have h1 := List.mem_of_getElem? hu
    rw [List.mem_replicate] at h1
    rw [h1.2] at hg
    simp [Value.ownBlock] at hg
theorem run_make_lists {P : Program} (t e : TypeId) (i : TypeInfo) (h1 : P.underlying t = some (.slice e)) (h2 : P.info? e = some i) (h3 : i.zero = some (.slice none 0 0)) (h4 : i.size = 1) (h5 : i.bytes = 24)
    (n : Nat) (hn : n ≤ 4194304) (w : World) :
    (Instr.makeSlice t (.int .i64 n) (.int .i64 n)).run P w = .ok (.slice (some ⟨w.heap.size, 0, none⟩) n n) (w.alloc (.cells (List.replicate n (Value.slice none 0 0)).toArray e)) := by
  have hrun := run_make (P := P) w t e i (.slice none 0 0) h1 h2 h3 .i64 .i64 n n (by omega) (by omega) (by rw [h5]; omega) (by omega)
  rw [h4] at hrun
  simp only [Int.toNat_natCast, Nat.mul_one] at hrun
  rw [hrun]
  congr 3
  apply Array.toList_inj.1
  simp [Value.cells, toList_madeCells_one]
theorem fill_setV {us : List Value} {k n : Nat} (hk : us.length = k) (hn : k < n) (u : Value) : (us ++ List.replicate (n - k) (Value.slice none 0 0)).set k u = (us ++ [u]) ++ List.replicate (n - (k + 1)) (Value.slice none 0 0) := by
  rw [List.set_append_right _ _ (by omega), hk, Nat.sub_self, show n - k = (n - (k + 1)) + 1 by omega, List.replicate_succ, List.set_cons_zero, List.append_assoc]
  rfl
theorem fill_setL {LL : List (List Int)} {k : Nat} (hk : k < LL.length) : (LL.take k ++ List.replicate (LL.length - k) []).set k LL[k] = LL.take (k + 1) ++ List.replicate (LL.length - (k + 1)) [] := by
  rw [List.set_append_right _ _ (by simp; omega), List.length_take, Nat.min_eq_left (by omega), Nat.sub_self, show LL.length - k = (LL.length - (k + 1)) + 1 by omega, List.replicate_succ, List.set_cons_zero, List.take_succ_eq_append_getElem hk, List.append_assoc]
  rfl
/-- rows that came in, read as lists -/
theorem rows_of {w : World} {a : Addr} {len cap : Nat} {A : Nat → Option Addr} {L C : Nat → Nat} {Z : Nat → List Int} (hl : len ≤ cap)
    (h : ∀ r, r < cap → w.cell? (a.add r) = some (.slice (A r) (L r) (C r)) ∧ L r ≤ C r ∧ C r ≤ maxLen ∧ (Z r).length = C r ∧ (∀ n ∈ Z r, (Lit.int .i64 n).wf = true) ∧ (A r = none → C r = 0) ∧
      ∀ a', A r = some a' → 0 ≤ a'.block ∧ ∀ c, c < C r → w.cell? (a'.add c) = some (.int .i64 ((Z r).getD c 0))) :
    ∃ LL : List (List Int), LL.length = len ∧ RdLL w w.heap.size (some a) LL ∧ ∀ M ∈ LL, M.length ≤ maxLen := by
  have each : ∀ r, r < len → ∃ M : List Int, M.length = L r ∧ Rd w w.heap.size (A r) (ints M) ∧ M.length ≤ maxLen ∧ M.length ≤ C r := by
    intro r hr
    obtain ⟨h1, h2, h3, h4, h5, h6, h7⟩ := h r (by omega)
    have hrow : IsRow .i64 w (A r) (L r) (C r) (Z r) := by
      cases ha : A r with
      | none =>
        have := h6 ha
        exact .inl ⟨rfl, by omega, this, List.eq_nil_of_length_eq_zero (by omega)⟩
      | some x => exact .inr ⟨x, rfl, h2, h3, h4, fun i hi => (h7 x ha).2 i (by omega), h5⟩
    obtain ⟨M, e1, e2, _, e4⟩ := hrow.rd
    exact ⟨M, e1, e2, by omega, by omega⟩
  obtain ⟨y, hy⟩ := Go.Deep.choose_lt each
  refine ⟨(List.range len).map y, by simp, ⟨(List.range len).map fun r => .slice (A r) (L r) (C r), ?_, by simp, ?_⟩, ?_⟩
  · intro hne
    have h0 : 0 < len := by
      rcases Nat.eq_zero_or_pos len with h0 | h0
      · subst h0; simp at hne
      · exact h0
    obtain ⟨b, o, spot⟩ := a
    have hc0 := (h 0 (by omega)).1
    have hspot : spot = none := by simpa [Addr.add] using World.cell?_spot hc0
    subst hspot
    have hlt := World.block_lt_of_cell? _ _ hc0
    refine ⟨b, o, rfl, by simpa [Addr.add] using hlt, fun k v hv => ?_⟩
    have hk := (List.getElem?_eq_some_iff.1 hv).1
    simp at hk
    have h1 := (h k (by omega)).1
    rw [Addr.add_lit] at h1
    rw [h1]
    simpa [hk] using hv
  · intro k v M hv hM
    have hk := (List.getElem?_eq_some_iff.1 hv).1
    simp at hk
    simp [hk] at hv hM
    subst hv hM
    obtain ⟨e1, e2, e3, e4⟩ := hy k hk
    exact ⟨A k, C k, by rw [e1], e2, e4⟩
  · intro M hM
    obtain ⟨r, hr, rfl⟩ := List.mem_map.1 hM
    exact (hy r (List.mem_range.1 hr)).2.2.1
/-- what is left of a size when lists are taken from it -/
def szs (left : Int) : List (List Int) → Int
  | [] => left
  | L :: R => if left - (L.length : Int) < 0 then -1 else szs (left - (L.length : Int)) R
theorem szs_neg (left : Int) (LL : List (List Int)) (h : 0 ≤ left) (hs : 0 ≤ szs left LL) : ∀ L ∈ LL, (L.length : Int) ≤ left := by
  induction LL generalizing left with
  | nil => intro L hL; cases hL
  | cons x R ih =>
    unfold szs at hs
    split at hs
    · omega
    · rename_i h1
      intro L hL
      rcases List.mem_cons.1 hL with rfl | hL
      · omega
      · have := ih (left - (x.length : Int)) (by omega) hs L hL
        omega
theorem szs_cnt (left : Int) (LL : List (List Int)) (h : 0 ≤ left) (hs : 0 ≤ szs left LL) : (cntLL LL : Int) ≤ left := by
  induction LL generalizing left with
  | nil => simp [cntLL]; exact h
  | cons x R ih =>
    unfold szs at hs
    split at hs
    · omega
    · rename_i h1
      have := ih (left - (x.length : Int)) (by omega) hs
      simp [cntLL] at this ⊢
      omega
def szF (left : Int) (LL : List (List Int)) : Int := if left - (LL.length : Int) < 0 then -1 else szs (left - (LL.length : Int)) LL
theorem szF_ok {LL : List (List Int)} (h : 0 ≤ szF 1048576 LL) : LL.length ≤ 1048576 ∧ (∀ L ∈ LL, L.length ≤ 1048576) ∧ cntLL LL ≤ 1048576 := by
  unfold szF at h
  split at h
  · omega
  · rename_i h1
    have h2 := szs_neg _ _ (by omega) h
    have h3 := szs_cnt _ _ (by omega) h
    refine ⟨by omega, fun L hL => ?_, by omega⟩
    have := h2 L hL
    omega
theorem szs_drop (left : Int) {LL : List (List Int)} {k : Nat} (hk : k < LL.length) : szs left (LL.drop k) = if left - (LL[k].length : Int) < 0 then -1 else szs (left - (LL[k].length : Int)) (LL.drop (k + 1)) := by
  rw [List.drop_eq_getElem_cons hk]
  rfl
theorem T_ints3 : (Try.prog.info? 31).map (fun i => (i.zero, i.size, i.bytes)) = some (some (.slice none 0 0), 1, 24) := by kernel_rfl
theorem szIntS_any (a : Option Addr) (c n : Nat) (left : Int) (w : World) (hl : 0 ≤ left ∧ left ≤ 4611686018427387904) (hn : n ≤ 9223372036854775807) :
    Calls Try.prog 35 #[.slice a n c, .int .i64 left] w fun e w' => e = .returned (.int .i64 (if left - (n : Int) < 0 then -1 else left - (n : Int))) ∧ w = w' := by
  by_cases h : left - (n : Int) < 0
  · rw [if_pos h]
    go_enter Try.func35, Try.ntmps35
    go_wp2
    go_ret
    exact ⟨rfl, rfl⟩
  · rw [if_neg h]
    have h' : 0 ≤ left - (n : Int) := by omega
    go_enter Try.func35, Try.ntmps35
    go_wp2
    go_ret
    exact ⟨rfl, rfl⟩
theorem szIntSS_any (a : Option Addr) (c B : Nat) (LL : List (List Int)) (w : World) (h : RdLL w B a LL) (hn : LL.length ≤ 9223372036854775807) (hil : ∀ L ∈ LL, L.length ≤ 9223372036854775807) :
    Calls Try.prog 13 #[.slice a LL.length c, .int .i64 1048576] w fun e w' => e = .returned (.int .i64 (szF 1048576 LL)) ∧ w = w' := by
  have HIL := Lib.hid hil
  clear hil
  by_cases h0 : (1048576 : Int) - (LL.length : Int) < 0
  · have HF : Hid (szF 1048576 LL = -1) := Lib.hid (by unfold szF; rw [if_pos h0])
    rw [HF.out]
    go_enter Try.func13, Try.ntmps13
    go_wp2
    go_ret
    exact ⟨rfl, rfl⟩
  · have HF : Hid (szF 1048576 LL = szs (1048576 - (LL.length : Int)) LL) := Lib.hid (by unfold szF; rw [if_neg h0])
    rw [HF.out]
    have h0' : 0 ≤ (1048576 : Int) - (LL.length : Int) := by omega
    clear h0
    go_enter Try.func13, Try.ntmps13
    go_wp2
    go_loop [1, 5] (fun vl vi => ∃ (k : Nat) (l : Int), k ≤ LL.length ∧ vi = .int .i64 k ∧ vl = .int .i64 l ∧ (0 ≤ l ∧ l ≤ 1048576) ∧ Hid (szs (1048576 - (LL.length : Int)) LL = szs l (LL.drop k))) (fun _ vi => LL.length - (intOf vi).toNat)
    case atStart => exact ⟨0, _, Nat.zero_le _, rfl, rfl, by omega, Lib.hid (by rw [List.drop_zero])⟩
    case round =>
      obtain ⟨k, l, hk, rfl, rfl, hl, HS⟩ := hrel
      by_cases hlt : k < LL.length
      · have hlt' : (k : Int) < (LL.length : Int) := by omega
        obtain ⟨b, o, a', c', rfl, hb1, hc, hr, hl2⟩ := h.at_ hlt
        have hll := HIL.out _ (List.getElem_mem hlt)
        have HD := Lib.hid (szs_drop l hlt)
        obtain ⟨n, hn2⟩ : ∃ n, n = LL[k].length := ⟨_, rfl⟩
        rw [← hn2] at hc hll HD
        clear hn2 hr hl2
        by_cases hneg : l - (n : Int) < 0
        · have HE : Hid (szs (1048576 - (LL.length : Int)) LL = -1) := Lib.hid (by rw [HS.out, HD.out, if_pos hneg])
          have HC := Lib.hid (fun w => szIntS_any a' c' n l w (by omega) hll)
          rw [if_pos hneg] at HC
          clear HS HD
          go_wp2_with (go_at_call 35; refine (HC.out _).mono ?_; rintro e w1 ⟨rfl, rfl⟩)
          go_ret
          exact ⟨ret_i64 HE.out.symm, rfl⟩
        · have HE : Hid (szs (1048576 - (LL.length : Int)) LL = szs (l - (n : Int)) (LL.drop (k + 1))) := Lib.hid (by rw [HS.out, HD.out, if_neg hneg])
          have HC := Lib.hid (fun w => szIntS_any a' c' n l w (by omega) hll)
          rw [if_neg hneg] at HC
          have hneg' : 0 ≤ l - (n : Int) := by omega
          clear HS HD hneg
          go_wp2_with (go_at_call 35; refine (HC.out _).mono ?_; rintro e w1 ⟨rfl, rfl⟩)
          go_round
          case rel => exact ⟨k + 1, l - (n : Int), by omega, by go_num, rfl, by omega, HE⟩
          case measure => simp [intOf]; omega
      · obtain rfl : k = LL.length := by omega
        have hlt' : (LL.length : Int) ≤ (LL.length : Int) := Int.le_refl _
        have HE : Hid (szs (1048576 - (LL.length : Int)) LL = l) := Lib.hid (by rw [HS.out, List.drop_eq_nil_of_le (Nat.le_refl _)]; rfl)
        go_wp2
        go_ret
        exact ⟨ret_i64 HE.out.symm, rfl⟩
set_option maxHeartbeats 800000 in
theorem toIntSS_any (a : Option Addr) (c B : Nat) (LL : List (List Int)) (w : World) (h : RdLL w B a LL) (hB : B ≤ w.heap.size) (hn : LL.length ≤ 1048576) (hil : ∀ L ∈ LL, L.length ≤ 1048576) :
    Calls Try.prog 15 #[.slice a LL.length c] w fun e w' => ∃ a' us, e = .returned (.slice a' LL.length LL.length) ∧ OwnLL w' w.heap.size w'.heap.size 31 3 (.slice a' LL.length LL.length) us LL ∧ Below w.heap.size w w' := by
  obtain ⟨i22, hi22, hq0, hq1, hq2⟩ := info_parts T_ints3
  have hmk := run_make_lists 22 31 i22 Try.underlying22 hi22 hq0 hq1 hq2 LL.length (by omega)
  have HIL := Lib.hid hil
  clear hil
  have hz := (OwnLL.zeros w LL.length 31 3 (by unfold maxLen; omega)).more
  go_enter Try.func15, Try.ntmps15
  go_wp2_with fail
  go_loopw [4] (fun i wr => ∃ (k : Nat) (us : List Value), k ≤ LL.length ∧ us.length = k ∧ i = .int .i64 k ∧ Below w.heap.size w wr ∧ OwnLL wr w.heap.size wr.heap.size 31 3 (.slice (some ⟨w.heap.size, 0, none⟩) LL.length LL.length) (us ++ List.replicate (LL.length - k) (Value.slice none 0 0)) (LL.take k ++ List.replicate (LL.length - k) [])) (fun i _ => LL.length - (intOf i).toNat)
  case atStart => exact ⟨0, [], Nat.zero_le _, rfl, rfl, (Below.refl _ _).alloc (Nat.le_refl _) _, by simpa using hz⟩
  case round =>
    obtain ⟨k, us, hk, hus, rfl, hbr, hor⟩ := hrel
    clear hz
    by_cases hlt : k < LL.length
    · have hlt' : (k : Int) < (LL.length : Int) := by omega
      obtain ⟨b1, o1, a1, c1, rfl, -, hc1, hr1, -⟩ := ((h.more hB).below hbr).at_ hlt
      have hll := HIL.out _ (List.getElem_mem hlt)
      have HSV := Lib.hid (fun u => fill_setV (n := LL.length) hus hlt u)
      have HSL := Lib.hid (fill_setL hlt)
      have hvl : k < (us ++ List.replicate (LL.length - k) (Value.slice none 0 0)).length := by rw [List.length_append, List.length_replicate]; omega
      have HVL := Lib.hid hvl
      have HUS := Lib.hid hus
      have HO := Lib.hid hor
      have HR := Lib.hid hr1
      obtain ⟨M, hM⟩ : ∃ M, M = LL[k] := ⟨_, rfl⟩
      rw [← hM] at hc1 hll HR HSL
      have hwsz := hbr.size
      clear hor hvl hus hM hr1
      go_wp2_with (go_at_call 37; refine (toIntS_any a1 c1 w.heap.size M wr (by exact HR.out) hwsz hll).mono ?_; rintro e w2 ⟨a2, rfl, ho2, hb2⟩; have hO2 := HO.out.below hb2; obtain ⟨g9, u9, e9, -, -, hc9, hf9⟩ := hO2.outer.spot HVL.out; obtain rfl : w.heap.size = g9 := congrArg Addr.block (Option.some.inj e9); clear e9; have HO2 := Lib.hid hO2; have HOU := Lib.hid ho2; clear hO2 ho2)
      go_roundw
      case rel =>
        have e := HO2.out.put HOU.out (Nat.le_refl _) hwsz HVL.out
        rw [HSV.out, HSL.out] at e
        exact ⟨k + 1, us ++ [.slice a2 M.length M.length], by omega, by rw [List.length_append, HUS.out]; rfl, by go_num, (hbr.trans (hb2.mono hwsz)).setCell (by simp) _, by simpa [World.setCell] using e⟩
      case measure => simp [intOf]; omega
    · obtain rfl : k = LL.length := by omega
      have hlt' : (LL.length : Int) ≤ (LL.length : Int) := Int.le_refl _
      rw [Nat.sub_self, List.replicate_zero, List.append_nil, List.replicate_zero, List.append_nil, List.take_of_length_le (Nat.le_refl _)] at hor
      have HO := Lib.hid hor
      clear hor
      go_wp2
      go_ret
      exact ⟨_, _, rfl, HO.out, hbr⟩
end Go.Proofs.Ytnheolhgdinjgaa
namespace Go.Proofs.Ytnheolhgdinjgaa
open Go.RowKit NP
set_option maxRecDepth 100000
set_option linter.unusedVariables false
set_option linter.unusedSimpArgs false
theorem mrg_length (L : List Int) : (mrg L).length = L.length := by
  have := (fold_ins L []).1
  simpa [mrg] using this
theorem sumL_bds (L : List Int) (hx : ∀ x ∈ L, 1 ≤ x ∧ x ≤ 16) : (L.length : Int) ≤ sumL L ∧ sumL L ≤ 16 * L.length := by
  induction L with
  | nil => simp [sumL]
  | cons y L ih =>
    have h1 := ih fun x h => hx x (List.mem_cons_of_mem _ h)
    have h2 := hx y List.mem_cons_self
    rw [show sumL (y :: L) = y + sumL L by simp [sumL], List.length_cons]
    omega
theorem sumFits_small (L : List Int) (h : L.length ≤ 16) (hx : ∀ x ∈ L, 1 ≤ x ∧ x ≤ 16) : sumFits L := fun k hk => by
  have h1 := sumL_bds (L.take k) fun x h => hx x (List.mem_of_mem_take h)
  rw [List.length_take] at h1
  omega
theorem sumL_small (L : List Int) (h : L.length ≤ 16) (hx : ∀ x ∈ L, 1 ≤ x ∧ x ≤ 16) (hn : 0 < L.length) : 1 ≤ sumL L ∧ sumL L ≤ 256 := by
  have := sumL_bds L hx
  omega
theorem OwnLL.chg {w w' : World} {g lo hi : Nat} {eo e : TypeId} {v : Value} {vs : List Value} {LL : List (List Int)} (h : OwnLL w lo hi eo e v vs LL) (hg : w.grownBy w' (some g)) (hlt : g < lo) : OwnLL w' lo hi eo e v vs LL :=
  ⟨h.outer.chg hg hlt, h.len, fun k u L a b => (h.inner k u L a b).chg hg hlt, h.apartO, h.apart⟩
theorem partsOfN_any (g q : Nat) (n : Int) (bs : List Int) (w : World) (hn0 : 0 ≤ n) (hn : n ≤ 16) (hq : q ≤ 900000) (h : Rdr w g bs q) :
    Calls Try.prog 68 #[.pointer (some ⟨g, 0, none⟩), .int .i64 n] w fun e w' => ∃ a' c' M, e = .returned (.slice a' M.length c') ∧ Own w' w.heap.size w'.heap.size 3 (.slice a' M.length c') (ints M) ∧ SmallParts M ∧ (0 < n → 0 < M.length) ∧ (∃ q', q' ≤ q + 32 ∧ Rdr w' g bs q') ∧ w.grownBy w' (some g) := by
  obtain ⟨i0, hi, hz0, hz1, hz2⟩ := T_int'
  have hlt := h.lt
  go_enter Try.func68, Try.ntmps68
  go_wp2_with fail
  go_loopw [1, 5] (fun nn v wr => ∃ (m : Nat) (q' : Nat) (M : List Int), nn = .int .i64 (m : Int) ∧ (M.length + m ≤ 16 ∧ (0 < n → 0 < M.length + m)) ∧ q' + 2 * m ≤ q + 32 ∧ Rdr wr g bs q' ∧ w.grownBy wr (some g) ∧ Own wr w.heap.size wr.heap.size 3 v (ints M) ∧ Hid (∀ x ∈ M, 1 ≤ x ∧ x ≤ 16)) (fun nn _ _ => (intOf nn).toNat)
  case atStart =>
    obtain ⟨m, rfl⟩ := Int.eq_ofNat_of_zero_le hn0
    exact ⟨m, q, [], rfl, by simp; omega, by omega, h.below ((Below.refl _ _).alloc hlt _), World.grownBy_alloc w _ _, (Own.empty w 3).more, Lib.hid (by simp)⟩
  case round =>
    obtain ⟨m, q', M, rfl, ⟨hMm, hNE⟩, hqm, hr, hg, hown, HM⟩ := hrel
    by_cases hm : 0 < m
    · have hm' : (0 : Int) < (m : Int) := by omega
      have hltr := hr.lt
      have HO := Lib.hid hown
      clear hown
      go_wp2_with fail
      refine (one_any g q' _ _ _ [3, 5, 9, 2, 16] bs _ (by simp) (by simp) (by omega) (hr.below ((Below.refl _ _).alloc hltr _)) (rd_new wr _ _) (by intro b o e; injection e with e; injection e with e; omega)).mono ?_
      rintro e w1 ⟨k, hk, rfl, h1, hg1, -⟩
      have hx : ∀ x ∈ ([3, 5, 9, 2, 16] : List Int), 2 ≤ x ∧ x ≤ 16 := by decide
      have hx1 := hx _ (List.getElem_mem hk)
      obtain ⟨x, hxx⟩ : ∃ x, x = ([3, 5, 9, 2, 16] : List Int)[k] := ⟨_, rfl⟩
      rw [← hxx] at hx1 ⊢
      clear hx hxx hk
      have hzr := hg.size
      have HO1 := Lib.hid ((HO.out.alloc (.cells (ints [3, 5, 9, 2, 16]).toArray 3)).chg hg1 (by omega)).more
      have hgw1 := chg_trans (chg_alloc hg (.cells (ints [3, 5, 9, 2, 16]).toArray 3)) hg1
      clear hg1 HO
      go_wp2_with fail
      all_goals
        refine (pick_any g _ _ bs _ (by omega) (by omega) h1).mono ?_
        rintro e w2 ⟨y, rfl, hy0, hy1, h2, hg2, -⟩
        obtain ⟨y, rfl⟩ := Int.eq_ofNat_of_zero_le hy0
        have hym : y + 1 ≤ m := by have := hy1 (by omega); omega
        clear hy1
        have hown2 := (HO1.out.chg hg2 (by omega)).more
        have hgw2 := chg_trans hgw1 hg2
        have hzw2 := hgw2.size
        clear hgw1 hg2 HO1
        go_wp2_with (at_builtin; refine wpList_append_o _ rfl (.tmp 18) (.tmp 20) 31 rfl w.heap.size w2.heap.size 3 i0 (.int .i64 0) 8 Try.underlying31 hi hz0 hz1 hz2 rfl _ (ints M) rfl (hown2.alloc _) (w2.heap.size + 1) (some ⟨w2.heap.size, 0, none⟩) 1 1 [.int .i64 (1 + (y : Int))] rfl (Rd.one w2 _ _) rfl (by simp; rfl) (by simp; unfold maxLen; omega) (by simp; omega) (by simp; omega) ?_; intro v' w3 ho3 hg3 hat3)
        go_roundw
        case rel =>
          refine ⟨m - (1 + y), q' + 2, M ++ [1 + (y : Int)], by go_num, ⟨by simp; omega, fun _ => by simp; omega⟩, by omega, (h2.row (World.grownBy_alloc w2 _ none) (by simp)).row hg3 (fun k hk => by have := hown2.base k hk; omega), chg_row (chg_alloc hgw2 _) hg3 hown2.base, by simpa [ints] using ho3, Lib.hid fun x hx => ?_⟩
          simp at hx
          rcases hx with hx | hx
          · exact HM.out x hx
          · omega
        case measure => simp [intOf]; omega
    · obtain rfl : m = 0 := by omega
      obtain ⟨a0, c0, rfl⟩ := hown.form
      have hs : SmallParts M := ⟨by omega, HM.out⟩
      have HS := Lib.hid (mrg_small hs)
      have HNE : Hid (0 < n → 0 < (mrg M).length) := Lib.hid (fun h9 => by have := hNE h9; rw [mrg_length]; omega)
      clear hNE
      have hlM : (ints M).length = M.length := by simp
      rw [hlM] at hown ⊢
      have HO := Lib.hid hown
      clear hown hlM
      go_wp2_with fail
      refine (merge_any _ _ _ M _ HO.out.rd (by omega) (by have := hs.1; omega)).mono ?_
      rintro e w1 ⟨a', c', rfl, ho1, hb1⟩
      go_wp2_with fail
      go_ret
      exact ⟨a', c', mrg M, rfl, ho1.lower hg.size, HS.out, HNE.out, ⟨q', by omega, hr.below (hb1.mono hr.lt)⟩, chg_below hg (hb1.mono hg.size)⟩
theorem T_intsD : (Try.prog.info? 31).map (fun i => (i.zero, i.size, i.bytes)) = some (some (.slice none 0 0), 1, 24) := by kernel_rfl
set_option maxHeartbeats 4000000 in
theorem aPile_any (g q : Nat) (bs : List Int) (w : World) (hq : q ≤ 800000) (h : Rdr w g bs q) :
    Calls Try.prog 59 #[.pointer (some ⟨g, 0, none⟩)] w fun e w' => ∃ a' c' us LL, e = .returned (.slice a' LL.length c') ∧ OwnLL w' w.heap.size w'.heap.size 31 3 (.slice a' LL.length c') us LL ∧ LL.length ≤ 16 ∧ (∀ M ∈ LL, SmallParts M ∧ 0 < M.length) ∧ (∃ q', q' ≤ q + 600 ∧ Rdr w' g bs q') ∧ w.grownBy w' (some g) := by
  obtain ⟨i0, hi, hz0, hz1, hz2⟩ := T_int'
  obtain ⟨i1, hj, hy0, hy1, hy2⟩ := info_parts T_intsD
  have hlt := h.lt
  go_enter Try.func59, Try.ntmps59
  go_wp2_with fail
  obtain ⟨wa, hwa⟩ : ∃ wa, wa = w.alloc (.cells #[] 31) := ⟨_, rfl⟩
  have hza : w.heap.size + 1 = wa.heap.size := by rw [hwa]; simp
  have hra : Rdr wa g bs q := hwa ▸ h.below ((Below.refl _ _).alloc hlt _)
  have hGa : w.grownBy wa (some g) := hwa ▸ World.grownBy_alloc w (.cells #[] 31) (some g)
  have hOa : OwnLL wa w.heap.size wa.heap.size 31 3 (.slice (some ⟨w.heap.size, 0, none⟩) 0 0) [] [] := by rw [hwa]; exact (OwnLL.empty w 31 3).more
  rw [← hwa]
  try rw [hza]
  clear hwa
  refine (one_any g _ _ _ _ [6, 8, 5, 10, 4, 3, 12, 1, 0, 16] bs _ (by simp) (by simp) (by omega) (hra.below ((Below.refl _ _).alloc hra.lt _)) (rd_new wa _ _) (by intro b o e; injection e with e; injection e with e; omega)).mono ?_
  rintro e w1 ⟨k, hk, rfl, h1, hg1, -⟩
  have hx : ∀ x ∈ ([6, 8, 5, 10, 4, 3, 12, 1, 0, 16] : List Int), 0 ≤ x ∧ x ≤ 16 := by decide
  have hx1 := hx _ (List.getElem_mem hk)
  obtain ⟨x, hxx⟩ : ∃ x, x = ([6, 8, 5, 10, 4, 3, 12, 1, 0, 16] : List Int)[k] := ⟨_, rfl⟩
  rw [← hxx] at hx1 ⊢
  clear hx hxx hk h
  have hG1 := chg_trans (chg_alloc hGa (.cells (ints [6, 8, 5, 10, 4, 3, 12, 1, 0, 16]).toArray 3)) hg1
  have hz1s := hG1.size
  have hO1 : OwnLL w1 w.heap.size w1.heap.size 31 3 (.slice (some ⟨w.heap.size, 0, none⟩) 0 0) [] [] := ((hOa.below ((Below.refl _ _).alloc (Nat.le_refl _) _)).chg hg1 hlt).more
  clear hg1 hOa hGa hra
  go_wp2_with fail
  go_loopw [3, 4] (fun v n wr => ∃ (m : Int) (q' : Nat) (us : List Value) (LL : List (List Int)), n = .int .i64 m ∧ (-300 ≤ m ∧ m ≤ 16 ∧ LL.length ≤ 16 ∧ (LL.length : Int) + m ≤ 16) ∧ us.length = LL.length ∧ q' + 33 * m.toNat ≤ q + 530 ∧ (∀ M ∈ LL, SmallParts M ∧ 0 < M.length) ∧ Rdr wr g bs q' ∧ w.grownBy wr (some g) ∧ OwnLL wr w.heap.size wr.heap.size 31 3 v us LL) (fun _ n _ => (intOf n).toNat)
  case atStart => exact ⟨x, q + 1, [], [], rfl, ⟨by omega, by omega, by simp, by simp; omega⟩, rfl, by omega, by simp, h1, hG1, hO1⟩
  case round =>
    obtain ⟨m, q1, us, LL, rfl, ⟨hm0, hm1, hl16, hlm⟩, hul, hqm, hsm, hr, hg, hoLL⟩ := hrel
    have HSM := Lib.hid hsm
    clear hsm hO1 hG1 h1
    obtain ⟨aO, cO, rfl⟩ := hoLL.form
    by_cases hm : 0 < m
    · have hHO := Lib.hid hoLL
      clear hoLL
      have hzr := hg.size
      go_wp2_with fail
      refine (pick_any g _ _ bs _ (by omega) (by omega) hr).mono ?_
      rintro e w2 ⟨y, rfl, hp0, hp1, h2, hg2, hz2s⟩
      have hym : y < m := hp1 (by omega)
      clear hp1
      have HO2 := Lib.hid (hHO.out.chg hg2 hlt)
      have hgw2 := chg_trans hg hg2
      clear hg hg2 hr hHO
      go_wp2_with fail
      refine (partsOfN_any g (q1 + 1) (1 + y) bs w2 (by omega) (by omega) (by omega) h2).mono ?_
      rintro e w3 ⟨aR, cR, R, rfl, hoR, hsR, hneR, ⟨q2, hq2, h3⟩, hg3⟩
      have hne := hneR (by omega)
      have HO3 := Lib.hid (HO2.out.chg hg3 hlt)
      have hgw3 := chg_trans hgw2 hg3
      have hz3 := hg3.size
      have HR3 := Lib.hid hoR
      clear hg3 hgw2 HO2 hneR h2 hoR
      by_cases h0 : LL.length = 0
      · have h0' : decide (0 < LL.length) = false := decide_eq_false (by omega)
        clear h0
        go_wp2_with (at_builtin; refine wpList_append_o _ rfl (.tmp 54) (.tmp 56) 22 rfl w.heap.size w3.heap.size 31 i1 (.slice none 0 0) 24 Try.underlying22 hj hy0 hy1 hy2 rfl _ us rfl (HO3.out.outer.more.alloc _) (w3.heap.size + 1) (some ⟨w3.heap.size, 0, none⟩) 1 1 [.slice aR R.length cR] rfl (Rd.one w3 _ _) rfl (by intro u hu; rw [List.mem_singleton.1 hu]; rfl) (by unfold maxLen; omega) (by omega) (by rw [World.size_alloc]; omega) ?_; intro v' w6 ho6 hg6 hat6)
        have hLL6 : OwnLL w6 w.heap.size w6.heap.size 31 3 v' (us ++ [.slice aR R.length cR]) (LL ++ [R]) :=
          OwnLL.append (HO3.out.below ((Below.refl _ _).alloc HO3.out.le _)) (HR3.out.alloc (.cells #[.slice aR R.length cR] 31)) (by omega) (by omega) (by simpa using ho6) hg6 hat6
        have hr6 := (h3.below ((Below.refl _ _).alloc h3.lt (.cells #[.slice aR R.length cR] 31))).row hg6 (fun x hx => by have := HO3.out.outer.base x hx; omega)
        have hgw6 := chg_row (chg_alloc hgw3 (.cells #[.slice aR R.length cR] 31)) hg6 HO3.out.outer.base
        have hs6 := hgw6.size
        obtain ⟨hsl, hsx⟩ := hsR
        have hro6 := hLL6.inner us.length (.slice aR R.length cR) R (by simp) (by rw [HO3.out.len]; simp)
        have hsf := sumFits_small R hsl hsx
        have hsum := sumL_small R hsl hsx hne
        have HLL := Lib.hid hLL6
        have HR := Lib.hid hr6
        have HG := Lib.hid hgw6
        clear hLL6 hr6 hgw6 ho6 hg6 hat6
        refine (sum_any aR cR _ R _ hro6.rd hsf (by omega)).mono ?_
        rintro e w7 ⟨rfl, rfl⟩
        clear hro6 hsf
        obtain ⟨sm, hsm2⟩ : ∃ sm, sm = sumL R := ⟨_, rfl⟩
        rw [← hsm2] at hsum ⊢
        clear hsm2
        have hwm : IntKind.i64.wrap (m - sm) = m - sm := IntWalk.i64_in _ (by omega)
        go_wp2_with fail
        go_roundw
        case rel => exact ⟨m - sm, q2, us ++ [.slice aR R.length cR], LL ++ [R], by go_num, by simp; omega, by simp; omega, by omega, fun M hM => by
            rcases List.mem_append.1 hM with h9 | h9
            · exact HSM.out M h9
            · rw [List.mem_singleton.1 h9]; exact ⟨⟨hsl, hsx⟩, hne⟩, HR.out, HG.out, HLL.out⟩
        case measure => simp [intOf]; omega
      · have h0' : decide (0 < LL.length) = true := decide_eq_true (by omega)
        have hLp : 0 < LL.length := by omega
        clear h0
        obtain ⟨kk, hkk⟩ : ∃ kk, LL.length = kk + 1 := ⟨LL.length - 1, by omega⟩
        have hkl : kk < LL.length := by omega
        obtain ⟨gO, aL, cL, eO, hgO1, hgO2, hcO, hoL, -⟩ := HO3.out.at_ hkl
        have hsP := HSM.out _ (List.getElem_mem hkl)
        subst eO
        have hwi : IntKind.i64.wrap ((LL.length : Int) - 1) = (kk : Int) := by rw [IntWalk.i64_in _ (by omega)]; omega
        have hki : (kk : Int) < (LL.length : Int) := by omega
        clear hkk
        generalize LL[kk] = P at hcO hoL hsP
        obtain ⟨⟨hpl, hpx⟩, hPN⟩ := hsP
        obtain ⟨r, hr⟩ : ∃ r : Nat, r = min R.length P.length := ⟨_, rfl⟩
        have hr1 : r ≤ R.length := by omega
        have hr2 : r ≤ P.length := by omega
        have hmn : (if P.length < R.length then (P.length : Int) else (R.length : Int)) = (r : Int) := by split <;> omega
        have hrn : 0 < r := by omega
        clear hr
        obtain ⟨gR, cR', eR, hcR⟩ := HR3.out.formN (by simpa using hne)
        injection eR with e1 e2 e3
        subst e1 e3
        rw [List.length_map] at hcR
        obtain ⟨gL, cL', eL, -⟩ := hoL.formN (by simpa using hPN)
        injection eL with e1 e4 e3
        subst e1 e3
        have hcr : (r : Int) ≤ (cR : Int) := by omega
        have hoT := HR3.out.take r (by simpa using hr1)
        rw [show (ints R).take r = ints (R.take r) by simp [ints, List.map_take]] at hoT
        have HOT := Lib.hid hoT
        have HP := Lib.hid hoL
        have hsN : ∀ x ∈ R.take r, 1 ≤ x ∧ x ≤ 16 := fun x hx => hsR.2 x (List.mem_of_mem_take hx)
        have hlN : (R.take r).length = r := by rw [List.length_take]; omega
        have HSN := Lib.hid hsN
        have HLN := Lib.hid hlN
        have hgR : w2.heap.size ≤ gR := hoT.base gR rfl
        clear hoT hoL hsN hlN e2 e4
        go_wp2_with fail
        go_loopw [7] (fun i wr => ∃ (k : Nat) (N : List Int), k ≤ r ∧ i = .int .i64 k ∧ N.length = r ∧ (∀ x ∈ N, 1 ≤ x ∧ x ≤ 16) ∧ Own wr w2.heap.size w3.heap.size 3 (.slice (some ⟨gR, 0, none⟩) r cR) (ints N) ∧ Below w2.heap.size w3 wr ∧ wr.heap.size = w3.heap.size) (fun i _ => 20 - (intOf i).toNat)
        case atStart => exact ⟨0, R.take r, Nat.zero_le _, rfl, HLN.out, HSN.out, HOT.out, Below.refl _ _, rfl⟩
        case round =>
          obtain ⟨k, N, hk, rfl, hNl, hNx, hoN, hbN, hzN⟩ := hrel
          by_cases hkr : k < r
          · have hkr' : (k : Int) < (r : Int) := by omega
            have hkN : k < N.length := by omega
            have hkP : k < P.length := by omega
            have hkPi : (k : Int) < (P.length : Int) := by omega
            obtain ⟨g1, c1, e1, hg11, hg12, hc1, hf1⟩ := hoN.at_ (k := k) (by simpa using hkN)
            injection e1 with e1 f1 f2
            clear f1 f2
            injection e1 with e1
            injection e1 with e1
            subst e1
            obtain ⟨g2, c2, e2, hg21, hg22, hc2, -⟩ := (HP.out.below (hbN.mono (by omega))).at_ (k := k) (by simpa using hkP)
            injection e2 with e2 f1 f2
            clear f1 f2
            injection e2 with e2
            injection e2 with e2
            subst e2
            rw [List.getElem_map] at hc1 hc2
            have hx := hNx _ (List.getElem_mem hkN)
            have hy := hpx _ (List.getElem_mem hkP)
            have hset : ∀ z : Int, 1 ≤ z ∧ z ≤ 16 → (N.set k z).length = r ∧ ∀ x ∈ N.set k z, 1 ≤ x ∧ x ≤ 16 := fun z hz => ⟨by rw [List.length_set]; exact hNl, fun x hx => by
              rcases List.mem_or_eq_of_mem_set hx with h9 | h9
              · exact hNx x h9
              · rw [h9]; exact hz⟩
            have HSET := Lib.hid hset
            generalize N[k] = x at hc1 hx
            generalize P[k] = y at hc2 hy
            obtain ⟨z, hz⟩ : ∃ z, (if y < x then y else x) = z := ⟨_, rfl⟩
            have hzb : 1 ≤ z ∧ z ≤ 16 := by rw [← hz]; split <;> omega
            have HZ := Lib.hid hzb
            have HOLD := Lib.hid hoN
            clear hset hNx hoN hx hy hzb
            go_wp2_with fail
            go_still_tail 12, (by kernel_rfl)
            change wpList _ _ _ _ _ wr.drew
            have hb5 : Below w2.heap.size w3 wr.drew := hbN.trans ((Dr.n wr 1).below _)
            have ho5 : Own wr.drew w2.heap.size w3.heap.size 3 (.slice (some ⟨gR, 0, none⟩) r cR) (ints N) := HOLD.out.drew
            have hz5 : wr.drew.heap.size = w3.heap.size := hzN
            replace hc1 : wr.drew.cell? ⟨gR, k, none⟩ = some (.int .i64 x) := hc1
            replace hf1 : wr.drew.frozen? ⟨gR, k, none⟩ = false := hf1
            replace hc2 : wr.drew.cell? ⟨gL, k, none⟩ = some (.int .i64 y) := hc2
            generalize wr.drew = w5 at *
            have HO5 := Lib.hid ho5
            clear ho5 HOLD hbN hzN
            go_wp2_with fail
            go_roundw
            case rel =>
              have e := HO5.out.set k (.int .i64 z)
              rw [show (ints N).set k (.int .i64 z) = ints (N.set k z) by simp [ints, List.map_set]] at e
              exact ⟨k + 1, N.set k z, by omega, by go_num, (HSET.out z HZ.out).1, (HSET.out z HZ.out).2, e, hb5.setCell (by exact hgR) _, by simpa [World.setCell] using hz5⟩
            case measure => simp [intOf]; omega
          · obtain rfl : k = r := by omega
            subst hNl
            have hne2 : 0 < N.length := hrn
            have hsR2 : N.length ≤ 16 ∧ ∀ x ∈ N, 1 ≤ x ∧ x ≤ 16 := ⟨by omega, hNx⟩
            have hkr' : ¬ (N.length : Int) < (N.length : Int) := by omega
            have h4 := h3.below (hbN.mono (by have := h3.lt; omega))
            have hgw4 := chg_below hgw3 (hbN.mono (by omega))
            have HO4 := Lib.hid (HO3.out.below (hbN.mono (by omega)))
            have HR4 := Lib.hid hoN.more
            have hzN2 : w3.heap.size ≤ wr.heap.size := by omega
            clear hsR hne hoN hNx hbN hgw3 h3 hzN
            go_wp2_with (at_builtin; refine wpList_append_o _ rfl (.tmp 54) (.tmp 56) 22 rfl w.heap.size wr.heap.size 31 i1 (.slice none 0 0) 24 Try.underlying22 hj hy0 hy1 hy2 rfl _ us rfl (HO4.out.outer.more.alloc _) (wr.heap.size + 1) (some ⟨wr.heap.size, 0, none⟩) 1 1 [.slice (some ⟨gR, 0, none⟩) N.length cR] rfl (Rd.one wr _ _) rfl (by intro u hu; rw [List.mem_singleton.1 hu]; rfl) (by unfold maxLen; omega) (by omega) (by rw [World.size_alloc]; omega) ?_; intro v' w6 ho6 hg6 hat6)
            have hLL6 : OwnLL w6 w.heap.size w6.heap.size 31 3 v' (us ++ [.slice (some ⟨gR, 0, none⟩) N.length cR]) (LL ++ [N]) :=
              OwnLL.append (HO4.out.below ((Below.refl _ _).alloc HO4.out.le _)) (HR4.out.alloc (.cells #[.slice (some ⟨gR, 0, none⟩) N.length cR] 31)) (by omega) (by omega) (by simpa using ho6) hg6 hat6
            have hr6 := (h4.below ((Below.refl _ _).alloc h4.lt (.cells #[.slice (some ⟨gR, 0, none⟩) N.length cR] 31))).row hg6 (fun x hx => by have := HO4.out.outer.base x hx; omega)
            have hgw6 := chg_row (chg_alloc hgw4 (.cells #[.slice (some ⟨gR, 0, none⟩) N.length cR] 31)) hg6 HO4.out.outer.base
            have hs6 := hgw6.size
            obtain ⟨hsl, hsx⟩ := hsR2
            have hro6 := hLL6.inner us.length (.slice (some ⟨gR, 0, none⟩) N.length cR) N (by simp) (by rw [HO4.out.len]; simp)
            have hsf := sumFits_small N hsl hsx
            have hsum := sumL_small N hsl hsx hne2
            have HLL := Lib.hid hLL6
            have HR := Lib.hid hr6
            have HG := Lib.hid hgw6
            clear hLL6 hr6 hgw6 ho6 hg6 hat6
            refine (sum_any (some ⟨gR, 0, none⟩) cR _ N _ hro6.rd hsf (by omega)).mono ?_
            rintro e w7 ⟨rfl, rfl⟩
            clear hro6 hsf
            obtain ⟨sm, hsm2⟩ : ∃ sm, sm = sumL N := ⟨_, rfl⟩
            rw [← hsm2] at hsum ⊢
            clear hsm2
            have hwm : IntKind.i64.wrap (m - sm) = m - sm := IntWalk.i64_in _ (by omega)
            go_wp2_with fail
            go_roundw
            case rel => exact ⟨m - sm, q2, us ++ [.slice (some ⟨gR, 0, none⟩) N.length cR], LL ++ [N], by go_num, by simp; omega, by simp; omega, by omega, fun M hM => by
                rcases List.mem_append.1 hM with h9 | h9
                · exact HSM.out M h9
                · rw [List.mem_singleton.1 h9]; exact ⟨⟨hsl, hsx⟩, hne2⟩, HR.out, HG.out, HLL.out⟩
            case measure => simp [intOf]; omega
    · have HO := Lib.hid hoLL
      have hl := hoLL.len
      clear hoLL
      go_wp2_with fail
      go_ret
      exact ⟨aO, cO, us, LL, rfl, HO.out, hl16, HSM.out, ⟨q1, by omega, hr⟩, hg⟩
end Go.Proofs.Ytnheolhgdinjgaa
namespace Go.Proofs.Ytnheolhgdinjgaa
open Go.RowKit NP
set_option maxRecDepth 100000
set_option linter.unusedVariables false
set_option linter.unusedSimpArgs false
theorem Own.tight {w : World} {lo hi g n c : Nat} {e : TypeId} {vs : List Value} (h : Own w lo hi e (.slice (some ⟨g, 0, none⟩) n c) vs) : Own w g (g + 1) e (.slice (some ⟨g, 0, none⟩) n c) vs := by
  have hlt := h.lt g rfl
  have hle := h.le
  refine ⟨⟨h.row.1, ?_⟩, fun k hk => by simp [Value.ownBlock] at hk; omega, by omega⟩
  rcases h.row.2 with ⟨h1, _⟩ | ⟨g2, cap, cur, h1, h2, h3⟩
  · cases h1
  · have e := h1
    injection e with e _ _
    injection e with e
    injection e with e
    exact .inr ⟨g2, cap, cur, h1, by omega, h3⟩
theorem Own.ne {w : World} {lo hi lo2 hi2 : Nat} {e e2 : TypeId} {v v2 : Value} {vs vs2 : List Value} (h : Own w lo hi e v vs) (h2 : Own w lo2 hi2 e2 v2 vs2) (hne : e ≠ e2) {g : Nat} (hg : v.ownBlock = some g) : v2.ownBlock ≠ some g := by
  intro hg2
  rcases h.row.2 with ⟨h1, _⟩ | ⟨a, cap, cur, rfl, _, hx, _⟩
  · subst h1; simp [Value.ownBlock] at hg
  rcases h2.row.2 with ⟨h1, _⟩ | ⟨b, cap2, cur2, rfl, _, hy, _⟩
  · subst h1; simp [Value.ownBlock] at hg2
  simp [Value.ownBlock] at hg hg2
  subst hg hg2
  rw [hx] at hy
  injection hy with hy
  injection hy with _ hy
  exact hne hy
theorem Own.chg2 {w w' : World} {lo hi g l h : Nat} {e : TypeId} {v : Value} {vs : List Value} (ho : Own w lo hi e v vs) (hc : Chg2 g l h w w') (hg : g < lo) (hd : ∀ k, v.ownBlock = some k → k < l ∨ h ≤ k) : Own w' lo hi e v vs :=
  ho.keep hc.size fun k hk => hc.block k (Nat.lt_of_lt_of_le (ho.lt k hk) ho.le) (by have := ho.base k hk; omega) (hd k hk)
theorem Own.cap {w : World} {lo hi n c : Nat} {a : Option Addr} {e : TypeId} {vs : List Value} (h : Own w lo hi e (.slice a n c) vs) : n ≤ c := by
  have hn := h.len
  rcases Nat.eq_zero_or_pos vs.length with h0 | h0
  · omega
  · obtain ⟨g, c2, e2, hc⟩ := h.formN h0
    injection e2 with _ _ e3
    omega
theorem Inn.own {w : World} {lo hi B : Nat} {e : TypeId} {a : Option Addr} {c : Nat} {L : List Int} (h : Own w lo hi e (.slice a L.length c) (ints L)) (hB : hi ≤ B) : Inn w B (.slice a L.length c) L := ⟨a, c, rfl, h.rd.more hB, h.cap⟩
theorem below_of_chg {g : Nat} {w w' : World} (h : w.grownBy w' (some g)) (hlt : g < w.heap.size) : Below g w w' := (Chg.of h (Nat.le_refl _)).below (by omega)
theorem chg_of2 {g lo hi n : Nat} {w w' : World} (h : Chg2 g lo hi w w') (h1 : n ≤ lo) (h2 : n ≤ w.heap.size) : Chg g n w w' := ⟨h.os, h.tape, h.output, h.size, fun k hk hne => h.block k (by omega) hne (.inl (by omega))⟩
/-- the first row is another one now -/
theorem rdll_first {w w3 : World} {lo hi hi2 gO c n g gR : Nat} {eo e : TypeId} {v1 : Value} {us : List Value} {LL : List (List Int)} {a' : Option Addr} {c' : Nat} {M' : List Int} (h : OwnLL w lo hi eo e (.slice (some ⟨gO, 0, none⟩) n c) us LL) (hne : eo ≠ e)
    (hv1 : us[0]? = some v1) (hb1 : v1.ownBlock = some gR) (hc : Chg2 g gR (gR + 1) w w3) (hg : g < lo) (hn : Own w3 gR hi2 e (.slice a' M'.length c') (ints M')) :
    RdLL (w3.setCell ⟨gO, 0, none⟩ (.slice a' M'.length c')) (w3.setCell ⟨gO, 0, none⟩ (.slice a' M'.length c')).heap.size (some ⟨gO, 0, none⟩) (LL.set 0 M') := by
  have hgO : gR ≠ gO := fun h9 => h.apartO 0 v1 gR hv1 hb1 (by rw [h9]; rfl)
  have ho3 := h.outer.chg2 hc hg (fun k hk => by simp [Value.ownBlock] at hk; omega)
  have ho4 := (ho3.set 0 (.slice a' M'.length c')).more
  refine ⟨us.set 0 (.slice a' M'.length c'), ho4.rd, by rw [List.length_set, List.length_set, h.len], fun k v L hk hL => ?_⟩
  have hs : (w3.setCell ⟨gO, 0, none⟩ (.slice a' M'.length c')).heap.size = w3.heap.size := by simp [World.setCell]
  rcases Nat.eq_zero_or_pos k with rfl | hk0
  · rw [List.getElem?_set] at hk hL
    have h1 : 0 < us.length := (List.getElem?_eq_some_iff.1 hv1).1
    have h2 : 0 < LL.length := by rw [← h.len]; exact h1
    simp [h1] at hk
    simp [h2] at hL
    subst hk hL
    have hx := hn.off (p := ⟨gO, 0, none⟩) (fun k hk he => (hn.ne ho3 (Ne.symm hne) hk) (by rw [he]; rfl)) (.slice a' M'.length c')
    exact Inn.own hx (by have := hn.le; omega)
  · rw [List.getElem?_set_ne (by omega)] at hk hL
    have hi' := h.inner k v L hk hL
    have hx3 := hi'.chg2 hc hg (fun x hx => by
      rcases Nat.lt_trichotomy x gR with h9 | h9 | h9
      · exact .inl h9
      · subst h9; have := h.apart 0 k v1 v x hv1 hk hb1 hx; omega
      · exact .inr h9)
    obtain ⟨a2, c2, rfl⟩ := hi'.form
    rw [List.length_map] at hx3 ⊢
    have hx4 := hx3.off (p := ⟨gO, 0, none⟩) (fun x hx he => (hx3.ne ho3 (Ne.symm hne) hx) (by rw [he]; rfl)) (.slice a' M'.length c')
    exact Inn.own hx4 (by have := hx3.le; omega)
set_option maxHeartbeats 4000000 in
theorem somePile_any (g q : Nat) (bs : List Int) (w : World) (hq : q ≤ 600000) (h : Rdr w g bs q) :
    Calls Try.prog 40 #[.pointer (some ⟨g, 0, none⟩)] w fun e w' => ∃ a' c' LL, e = .returned (.slice a' LL.length c') ∧ RdLL w' w'.heap.size a' LL ∧ LL.length ≤ 17 ∧ LL.length ≤ c' ∧ (∀ M ∈ LL, M.length ≤ 40) ∧ Below g w w' := by
  obtain ⟨i0, hi, hz0, hz1, hz2⟩ := T_int'
  obtain ⟨i1, hj, hy0, hy1, hy2⟩ := info_parts T_intsD
  have hlt := h.lt
  go_enter Try.func40, Try.ntmps40
  go_wp2_with fail
  refine (aPile_any g q bs w (by omega) h).mono ?_
  rintro e w1 ⟨aO, cO, us, LL, rfl, hO, hl16, hsm, ⟨q1, hq1, h1⟩, hg1⟩
  have hul := hO.len
  have HO := Lib.hid hO
  have HSM := Lib.hid hsm
  clear hO hsm h
  go_wp2_with fail
  refine (pick_any g _ _ bs _ (by omega) (by omega) h1).mono ?_
  rintro e w2 ⟨y, rfl, hp0, hp1, h2, hg2, hzp⟩
  have hO2 := HO.out.chg hg2 hlt
  have hgw2 := chg_trans hg1 hg2
  have hz2s := hgw2.size
  have h12 : w1.heap.size ≤ w2.heap.size := hg2.size
  have h40 : ∀ M ∈ LL, M.length ≤ 40 := fun M hM => by have := (HSM.out M hM).1.1; omega
  have H40 := Lib.hid h40
  clear hg1 hg2 h1 HO hp1 hzp h40
  have HO2 := Lib.hid hO2
  clear hO2
  by_cases y0 : y = 0
  · have b0 : (y == 0) = true := beq_iff_eq.2 y0
    clear y0
    go_wp2_with (at_builtin; refine wpList_append_o _ rfl (.tmp 10) (.tmp 12) 22 rfl w.heap.size w2.heap.size 31 i1 (.slice none 0 0) 24 Try.underlying22 hj hy0 hy1 hy2 rfl _ us rfl ((HO2.out.outer.more.alloc _).alloc _) (w2.heap.size + 2) (some ⟨w2.heap.size + 1, 0, none⟩) 1 1 [.slice (some ⟨w2.heap.size, 0, none⟩) 0 0] rfl (rd_one2 w2 _ _ _) rfl (by intro u hu; rw [List.mem_singleton.1 hu]; rfl) (by unfold maxLen; omega) (by omega) (by rw [World.size_alloc, World.size_alloc]; omega) ?_; intro v' w6 ho6 hg6 hat6)
    have e1 : OwnLL ((w2.alloc (.cells #[] 3)).alloc (.cells #[.slice (some ⟨w2.heap.size, 0, none⟩) 0 0] 31)) w.heap.size w1.heap.size 31 3 (.slice aO LL.length cO) us LL := (HO2.out.below ((Below.refl _ _).alloc h12 _)).below ((Below.refl _ _).alloc (by rw [World.size_alloc]; omega) _)
    have e2 : Own ((w2.alloc (.cells #[] 3)).alloc (.cells #[.slice (some ⟨w2.heap.size, 0, none⟩) 0 0] 31)) w2.heap.size (w2.heap.size + 1) 3 (.slice (some ⟨w2.heap.size, 0, none⟩) 0 0) (ints []) := (Own.empty w2 3).alloc _
    have hLL6 : OwnLL w6 w.heap.size w6.heap.size 31 3 v' (us ++ [.slice (some ⟨w2.heap.size, 0, none⟩) 0 0]) (LL ++ [[]]) := OwnLL.append e1 e2 h12 (by omega) (by simpa using ho6) hg6 hat6
    have hc6 := chg_row (chg_alloc (chg_alloc hgw2 (.cells #[] 3)) (.cells #[.slice (some ⟨w2.heap.size, 0, none⟩) 0 0] 31)) hg6 HO2.out.outer.base
    obtain ⟨a6, c6, rfl⟩ := hLL6.form
    have hcap := hLL6.outer.cap
    have hrd := hLL6.rd
    clear e1 e2 hLL6 ho6 hg6 hat6
    go_wp2_with fail
    go_ret
    exact ⟨a6, c6, LL ++ [[]], rfl, hrd, by simp; omega, hcap, fun M hM => by
      rcases List.mem_append.1 hM with h9 | h9
      · exact H40.out M h9
      · rw [List.mem_singleton.1 h9]; simp, below_of_chg hc6 hlt⟩
  · have b0 : (y == 0) = false := beq_eq_false_iff_ne.2 y0
    clear y0
    by_cases y1 : y = 1
    · have b1 : (y == 1) = true := beq_iff_eq.2 y1
      clear y1
      go_wp2_with fail
      refine (someParts_grown g _ bs w2 (by omega) h2).mono ?_
      rintro e w3 ⟨aM, cM, M, rfl, hoM, hsM, -, hg3⟩
      have hO3 := HO2.out.chg hg3 hlt
      have hgw3 := chg_trans hgw2 hg3
      have h23 : w2.heap.size ≤ w3.heap.size := hg3.size
      have HO3 := Lib.hid hO3
      have HOM := Lib.hid hoM
      have hM40 := hsM.1
      clear hgw2 hg3 hO3 hoM h2 HO2 hsM
      go_wp2_with (at_builtin; refine wpList_append_o _ rfl (.tmp 16) (.tmp 19) 22 rfl w.heap.size w3.heap.size 31 i1 (.slice none 0 0) 24 Try.underlying22 hj hy0 hy1 hy2 rfl _ us rfl (HO3.out.outer.more.alloc _) (w3.heap.size + 1) (some ⟨w3.heap.size, 0, none⟩) 1 1 [.slice aM M.length cM] rfl (Rd.one w3 _ _) rfl (by intro u hu; rw [List.mem_singleton.1 hu]; rfl) (by unfold maxLen; omega) (by omega) (by rw [World.size_alloc]; omega) ?_; intro v' w6 ho6 hg6 hat6)
      have hLL6 : OwnLL w6 w.heap.size w6.heap.size 31 3 v' (us ++ [.slice aM M.length cM]) (LL ++ [M]) := OwnLL.append (HO3.out.below ((Below.refl _ _).alloc HO3.out.le _)) (HOM.out.alloc (.cells #[.slice aM M.length cM] 31)) h12 (by omega) (by simpa using ho6) hg6 hat6
      have hc6 := chg_row (chg_alloc hgw3 (.cells #[.slice aM M.length cM] 31)) hg6 HO3.out.outer.base
      obtain ⟨a6, c6, rfl⟩ := hLL6.form
      have hcap := hLL6.outer.cap
      have hrd := hLL6.rd
      clear hLL6 ho6 hg6 hat6
      go_wp2_with fail
      go_ret
      exact ⟨a6, c6, LL ++ [M], rfl, hrd, by simp; omega, hcap, fun X hX => by
        rcases List.mem_append.1 hX with h9 | h9
        · exact H40.out X h9
        · rw [List.mem_singleton.1 h9]; exact hM40, below_of_chg hc6 hlt⟩
    · have b1 : (y == 1) = false := beq_eq_false_iff_ne.2 y1
      clear y1
      by_cases y2 : y = 2
      · have b2 : (y == 2) = true := beq_iff_eq.2 y2
        clear y2
        by_cases h0 : 0 < LL.length
        · have h0' : decide (0 < LL.length) = true := decide_eq_true h0
          have h0i : (0 : Int) < (LL.length : Int) := by omega
          obtain ⟨gO, aR, cR, eO, hgO1, hgO2, hcO, hoR, hus⟩ := HO2.out.at_ h0
          subst eO
          have hsR := HSM.out _ (List.getElem_mem h0)
          generalize LL[0] = R at hcO hoR hus hsR
          obtain ⟨gR, cR', eR, -⟩ := hoR.formN (by simpa using hsR.2)
          injection eR with e1 e2 e3
          subst e1
          clear e2 e3
          have hgR := hoR.base gR rfl
          have hgR2 := hoR.lt gR rfl
          have hfO : w2.frozen? ⟨gO, 0, none⟩ = false := by
            obtain ⟨g5, u5, e5, _, _, _, h5⟩ := HO2.out.outer.spot (k := 0) (by omega)
            injection e5 with e5
            injection e5 with e5
            rw [e5]; exact h5
          have HOR := Lib.hid hoR.tight
          have HUS := Lib.hid hus
          have HSR := Lib.hid hsR.1
          clear hoR hus hsR
          go_wp2_with fail
          refine (bent_at g _ gR (gR + 1) (some ⟨gR, 0, none⟩) cR R bs w2 (by omega) h2 HSR.out (by omega) HOR.out (by omega) (by omega)).mono ?_
          rintro e w3 ⟨aM, cM, M, rfl, hoM, hsM, -, hc3⟩
          have ho3 := HO2.out.outer.chg2 hc3 hlt (fun k hk => by
            have := HO2.out.apartO 0 _ gR HUS.out rfl
            rw [hk] at this
            have : k ≠ gR := fun h9 => this (by rw [h9])
            omega)
          obtain ⟨g5, u5, e5, _, _, hc5, hf5⟩ := ho3.spot (k := 0) (by omega)
          injection e5 with e5
          injection e5 with e5
          subst e5
          have hrd := rdll_first HO2.out (by decide) HUS.out rfl hc3 hlt hoM
          have hM40 := hsM.1
          have hch : Chg g w.heap.size w w3 := (Chg.of hgw2 (Nat.le_refl _)).trans (chg_of2 hc3 (by omega) (by omega))
          clear hcO hfO
          go_wp2_with fail
          go_ret
          have hb3 := (hch.below (by omega)).setCell (p := ⟨gO, 0, none⟩) (by show g ≤ gO; omega) (.slice aM M.length cM)
          have hle := ho3.cap
          have e0 : (LL.set 0 M).length = LL.length := by rw [List.length_set]
          rw [← e0]
          exact ⟨some ⟨gO, 0, none⟩, cO, LL.set 0 M, rfl, hrd, by rw [e0]; omega, by rw [e0]; exact hle, fun X hX => by
            rcases List.mem_or_eq_of_mem_set hX with h9 | h9
            · exact H40.out X h9
            · rw [h9]; exact hM40, hb3⟩
        · have h0' : decide (0 < LL.length) = false := decide_eq_false h0
          have hcap := HO2.out.outer.cap
          go_wp2_with fail
          go_ret
          exact ⟨aO, cO, LL, rfl, HO2.out.rd.more HO2.out.le, by omega, hcap, H40.out, below_of_chg hgw2 hlt⟩
      · have b2 : (y == 2) = false := beq_eq_false_iff_ne.2 y2
        clear y2
        have hcap := HO2.out.outer.cap
        go_wp2_with fail
        go_ret
        exact ⟨aO, cO, LL, rfl, HO2.out.rd.more HO2.out.le, by omega, hcap, H40.out, below_of_chg hgw2 hlt⟩
theorem DrawValidPile_any (a : Option Addr) (c B : Nat) (bs : List Int) (w : World) (h : Rd w B a (bs.map (Value.int .u8))) (hB : B ≤ w.heap.size) (hb : ∀ n ∈ bs, (Lit.int .u8 n).wf = true) (hl : bs.length ≤ 1048576) (hc : bs.length ≤ c) :
    Calls Try.prog 18 #[.slice a bs.length c] w fun e w' => ∃ a' c' LL, e = .returned (.slice a' LL.length c') ∧ RdLL w' w'.heap.size a' LL ∧ LL.length ≤ 17 ∧ LL.length ≤ c' ∧ (∀ M ∈ LL, M.length ≤ 40) ∧ Below w.heap.size w w' := by
  go_enter Try.func18, Try.ntmps18
  go_wp2_with fail
  refine (newReader_any _ _ B bs _ h hB hb hl hc).mono ?_
  rintro e w1 ⟨rfl, h1, hb1, -⟩
  go_wp2_with fail
  refine (somePile_any _ 0 _ _ (by omega) h1).mono ?_
  rintro e w2 ⟨a', c', LL, rfl, hr, hl17, hcap, h40, hb2⟩
  go_wp2_with fail
  go_ret
  exact ⟨a', c', LL, rfl, hr, hl17, hcap, h40, hb1.trans hb2⟩
theorem DrawPileSum_any (a : Option Addr) (c B : Nat) (bs : List Int) (w : World) (h : Rd w B a (bs.map (Value.int .u8))) (hB : B ≤ w.heap.size) (hb : ∀ n ∈ bs, (Lit.int .u8 n).wf = true) (hl : bs.length ≤ 1048576) (hc : bs.length ≤ c) :
    Calls Try.prog 22 #[.slice a bs.length c] w fun e w' => ∃ a' c' LL, e = .returned (.slice a' LL.length c') ∧ RdLL w' w'.heap.size a' LL ∧ LL.length ≤ 17 ∧ LL.length ≤ c' ∧ (∀ M ∈ LL, M.length ≤ 40) ∧ Below w.heap.size w w' := by
  go_enter Try.func22, Try.ntmps22
  go_wp2_with fail
  refine (newReader_any _ _ B bs _ h hB hb hl hc).mono ?_
  rintro e w1 ⟨rfl, h1, hb1, -⟩
  go_wp2_with fail
  refine (somePile_any _ 0 _ _ (by omega) h1).mono ?_
  rintro e w2 ⟨a', c', LL, rfl, hr, hl17, hcap, h40, hb2⟩
  go_wp2_with fail
  go_ret
  exact ⟨a', c', LL, rfl, hr, hl17, hcap, h40, hb1.trans hb2⟩
theorem DrawTurnPile_any (a : Option Addr) (c B : Nat) (bs : List Int) (w : World) (h : Rd w B a (bs.map (Value.int .u8))) (hB : B ≤ w.heap.size) (hb : ∀ n ∈ bs, (Lit.int .u8 n).wf = true) (hl : bs.length ≤ 1048576) (hc : bs.length ≤ c) :
    Calls Try.prog 27 #[.slice a bs.length c] w fun e w' => ∃ a' c' LL, e = .returned (.slice a' LL.length c') ∧ RdLL w' w'.heap.size a' LL ∧ LL.length ≤ 17 ∧ LL.length ≤ c' ∧ (∀ M ∈ LL, M.length ≤ 40) ∧ Below w.heap.size w w' := by
  go_enter Try.func27, Try.ntmps27
  go_wp2_with fail
  refine (newReader_any _ _ B bs _ h hB hb hl hc).mono ?_
  rintro e w1 ⟨rfl, h1, hb1, -⟩
  go_wp2_with fail
  refine (somePile_any _ 0 _ _ (by omega) h1).mono ?_
  rintro e w2 ⟨a', c', LL, rfl, hr, hl17, hcap, h40, hb2⟩
  go_wp2_with fail
  go_ret
  exact ⟨a', c', LL, rfl, hr, hl17, hcap, h40, hb1.trans hb2⟩
theorem DrawLayersOf_any (a : Option Addr) (c B : Nat) (bs : List Int) (w : World) (h : Rd w B a (bs.map (Value.int .u8))) (hB : B ≤ w.heap.size) (hb : ∀ n ∈ bs, (Lit.int .u8 n).wf = true) (hl : bs.length ≤ 1048576) (hc : bs.length ≤ c) :
    Calls Try.prog 30 #[.slice a bs.length c] w fun e w' => ∃ a' c' LL, e = .returned (.slice a' LL.length c') ∧ RdLL w' w'.heap.size a' LL ∧ LL.length ≤ 17 ∧ LL.length ≤ c' ∧ (∀ M ∈ LL, M.length ≤ 40) ∧ Below w.heap.size w w' := by
  go_enter Try.func30, Try.ntmps30
  go_wp2_with fail
  refine (newReader_any _ _ B bs _ h hB hb hl hc).mono ?_
  rintro e w1 ⟨rfl, h1, hb1, -⟩
  go_wp2_with fail
  refine (somePile_any _ 0 _ _ (by omega) h1).mono ?_
  rintro e w2 ⟨a', c', LL, rfl, hr, hl17, hcap, h40, hb2⟩
  go_wp2_with fail
  go_ret
  exact ⟨a', c', LL, rfl, hr, hl17, hcap, h40, hb1.trans hb2⟩
end Go.Proofs.Ytnheolhgdinjgaa
namespace Go.Proofs.Ytnheolhgdinjgaa
namespace NP
def allQ : Nat → Nat → Nat → List (List Int)
  | 0, n, _ => if n = 0 then [[]] else []
  | f + 1, n, most => if n = 0 then [[]] else (List.range (min n most)).reverse.flatMap fun i => (allQ f (n - (i + 1)) (i + 1)).map fun R => ((i + 1 : Nat) : Int) :: R
def pieceQ (f n i : Nat) : List (List Int) := (allQ f (n - (i + 1)) (i + 1)).map fun R => ((i + 1 : Nat) : Int) :: R
def upQ (f n top j : Nat) : List (List Int) := ((List.range top).reverse.take j).flatMap (pieceQ f n)
theorem upQ_zero (f n top : Nat) : upQ f n top 0 = [] := by simp [upQ]
theorem upQ_succ (f n top j : Nat) (h : j < top) : upQ f n top (j + 1) = upQ f n top j ++ pieceQ f n (top - 1 - j) := by
  have hl : j < (List.range top).reverse.length := by simpa using h
  unfold upQ
  rw [List.take_succ_eq_append_getElem hl, List.flatMap_append]
  congr 1
  simp
theorem allQ_zero (f most : Nat) : allQ f 0 most = [[]] := by cases f <;> simp [allQ]
theorem allQ_up (f n most : Nat) (h : n ≠ 0) : allQ (f + 1) n most = upQ f n (min n most) (min n most) := by
  have : (allQ (f + 1) n most) = (List.range (min n most)).reverse.flatMap (pieceQ f n) := by
    rw [allQ, if_neg h]; rfl
  rw [this, upQ, List.take_of_length_le (by simp)]
/-- enough fuel is enough -/
theorem allQ_fuel : ∀ (f n most : Nat), n ≤ f → allQ (f + 1) n most = allQ f n most := by
  intro f
  induction f with
  | zero =>
      intro n most h
      obtain rfl : n = 0 := (by omega)
      rw [allQ_zero, allQ_zero]
  | succ f ih =>
    intro n most h
    by_cases h0 : n = 0
    · subst h0; rw [allQ_zero, allQ_zero]
    · rw [allQ_up _ _ _ h0, allQ_up _ _ _ h0]
      have : pieceQ (f + 1) n = pieceQ f n := by
        funext i
        unfold pieceQ
        by_cases hi : n = 0
        · exact absurd hi h0
        · rw [ih (n - (i + 1)) (i + 1) (by omega)]
      unfold upQ
      rw [this]
/-- heads ahead of each -/
theorem map_piece (H : List Int) (f n i : Nat) : (pieceQ f n i).map (fun R => H ++ R) = (allQ f (n - (i + 1)) (i + 1)).map (fun R => (H ++ [((i + 1 : Nat) : Int)]) ++ R) := by
  unfold pieceQ
  rw [List.map_map]
  congr 1
  funext R
  simp
end NP
end Go.Proofs.Ytnheolhgdinjgaa
