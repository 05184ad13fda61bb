/-
  Walks of the program: equal parts moved until nothing moves any more. Plain mathematics: parts put into rooms, by tallies and by lists. Plain mathematics: how many states of rooms there can be. Walks of the library: whether a state of rooms is among some. Walks of the program: all that may be left of some rooms. Plain mathematics: refining, by the rooms that are left. Walks: ranks: the program's and the model's.
-/
import Derived.Test.YthafbdpeignccaaZR1
import Derived.Test.YthafbdpeignccaaZR2
import Derived.Test.YthafbdpeignccaaZR3
import Derived.Test.YthafbdpeignccaaZR4
import Derived.Test.YthafbdpeignccaaZR5
import Derived.Deep.LoopGhost
import Derived.Deep.RegionHeld3
import Derived.WalkMore
import Derived.Deep.MidRow
import Derived.StillTailTactics
namespace Go.Proofs.Ythafbdpeignccaa
open Go.RowKit NP
set_option maxRecDepth 8000
set_option linter.unusedVariables false
set_option linter.unusedSimpArgs false
/-- a function value that says how two counts move, in every later world -/
def IsMv (w : World) (v : Value) (F : Int → Int → Int × Int) : Prop := ∃ (f : Nat) (p c : Array Value), v = .func (.func f) p c ∧ (∀ (args : Array Value) (w : World), (callFunc f args).run Try.prog w = .ok (.enter f args) w) ∧ ∀ w1, Below w.heap.size w w1 → ∀ x y : Int, 0 ≤ x ∧ x ≤ 16 → 0 ≤ y ∧ y ≤ 16 →
  Calls Try.prog f (p ++ #[.int .i64 x, .int .i64 y] ++ c) w1 fun e w2 => e = .returned (.tuple #[.int .i64 (F x y).1, .int .i64 (F x y).2]) ∧ Dr w1 w2
theorem T_eqT (d : Nat) (D E : List Int) (hD : D.length = 17) (hE : E.length = 17) (w : World) : (Op.equalIn (d + 1 + 1) 81 (.agg (arr D)) (.agg (arr E))).run Try.prog w = .ok (decide (D = E)) w := by
  obtain ⟨i, hi⟩ := info_of_underlying Try.underlying3
  exact run_equal_arrD d Try.underlying81 Try.underlying3 (by kernel_rfl) hi (by kernel_rfl) D E hD hE w
theorem T_guardT : Try.prog.eqGuardType Try.prog.depth 81 = false := by kernel_rfl
theorem wpList_eqlT {ops : Array Oper} {rest : List Oper} {o : Oper} {a : Act} {w : World} {Q : Exit → Act → World → Prop} (hgd : o.guard = none) (x y : Operand) (T : TypeId) (ho : o.op = .binOp .eql 81 x y T) (D E : List Int) (hD : D.length = 17) (hE : E.length = 17) (hx : a.eval x = .agg (arr D)) (hy : a.eval y = .agg (arr E))
    (h : wpList Try.prog ops Q rest (a.put o.dst (.bool (decide (D = E)))) w) : wpList Try.prog ops Q (o :: rest) a w :=
  wpList_plain hgd fun _ hK => by
    unfold Oper.wp
    rw [exec_eql 81 T x y ho hx hy T_guardT (T_eqT 9998 D E hD hE w)]
    exact hK _ _ h
theorem wrapM3 {n m p : Nat} (e : n * m = p) (h : p ≤ 32) : IntKind.i64.wrap ((n : Int) * (m : Int)) = (p : Int) ∧ wrap64 ((n : Int) * (m : Int)) = (p : Int) := by
  have hpi : (n : Int) * (m : Int) = (p : Int) := by rw [← e]; simp
  rw [hpi]
  exact ⟨IntWalk.i64_in _ (by omega), by unfold wrap64; omega⟩
set_option maxRecDepth 100000 in
set_option maxHeartbeats 4000000 in
theorem moveEqual_any (m : Nat) (hm : 2 ≤ m ∧ m ≤ 16) (f : Int → Int → Int × Int) (st : List Int → Nat → List Int) (mu : List Int → Nat) (still : List Int → Nat → Prop) (hMv : Mv m f st mu still) (P : List Int) (hv : valid P = true) (v : Value) (w : World) (hW : IsMv w v f) :
    Calls Try.prog 96 #[.int .i64 m, .agg (arr (pad P)), v] w fun e w' => ∃ L, vsm L = true ∧ Alike m L P ∧ (∀ k, 1 ≤ k → k * m ≤ 16 → still L k) ∧ e = .returned (.agg (arr (pad (mrg L)))) ∧ Below w.heap.size w w' := by
  obtain ⟨fn, pp, cc, rfl, hen, hW1⟩ := hW
  have hl16 := (valid_bd hv).2.2.2
  have hiP : (Try.prog.info? 59).map (·.size) = some (arr (pad P)).size := by rw [arr_size, pad_len hl16]; exact T_info35
  have hi17 : ∀ M, (Try.prog.info? 81).map (·.size) = some (arr (tlyL M)).size := fun M => by rw [arr_size, tlyL_len]; exact T_tal
  have HI := Lib.hid hi17
  have hs17 : ∀ M N, (arr (tlyL M)).size = (arr (tlyL N)).size := fun M N => by rw [arr_size, arr_size, tlyL_len, tlyL_len]
  have HS17 := Lib.hid hs17
  have HSZ : Hid (∀ M, (arr (tlyL M)).size = (arr (List.replicate 17 0)).size) := Lib.hid (fun M => by rw [arr_size, arr_size, tlyL_len]; rfl)
  have HZ : Hid (arr (List.replicate 17 0) = arr (tlyL [])) := Lib.hid (by congr 1)
  have HV := Lib.hid hv
  have HMV := Lib.hid hMv
  have HW1 := Lib.hid hW1
  have hb0 := Blk.new w 59 (arr (pad P))
  have hmx : Try.prog.follows .mixedOrders = true := by kernel_rfl
  clear hi17 hs17 hv hMv hW1
  go_enter Try.func96, Try.ntmps96
  go_wp2_with (first
    | (refine wpList_load_row rfl 59 (.tmp 4) rfl w.heap.size rfl 59 (arr (pad P)) (0, 0) _ (hb0.alloc _) Try.underlying59 rfl hiP ?_)
    | (go_at_call 111; refine (dtally_any P HV.out _).mono ?_; rintro e w1 ⟨rfl, hb1⟩)
    | (refine wpList_store_row rfl 81 (.tmp 7) (.tmp 11) rfl w1.heap.size rfl (arr (tlyL P)) rfl 81 _ (Blk.new w1 _ _) (HI.out P) (HSZ.out P) (arr_one _) ?_))
  have hzz : ((w.alloc (.cells (arr (pad P)) 59)).alloc (.cells (arr (List.replicate 16 0)) 59)).heap.size = w.heap.size + 2 := by simp
  have hR1 : Blk ((w.alloc (.cells (arr (pad P)) 59)).alloc (.cells (arr (List.replicate 16 0)) 59)) (w.heap.size + 1) 59 (arr (List.replicate 16 0)) := by
    have e := Blk.new (w.alloc (.cells (arr (pad P)) 59)) 59 (arr (List.replicate 16 0))
    rw [World.size_alloc] at e
    exact e
  have hA1 : Below w.heap.size w ((w.alloc (.cells (arr (pad P)) 59)).alloc (.cells (arr (List.replicate 16 0)) 59)) := ((Below.refl _ _).alloc (Nat.le_refl _) _).alloc (by simp) _
  replace hb1 : Below ((w.alloc (.cells (arr (pad P)) 59)).alloc (.cells (arr (List.replicate 16 0)) 59)).heap.size ((w.alloc (.cells (arr (pad P)) 59)).alloc (.cells (arr (List.replicate 16 0)) 59)) w1 := hb1
  have hz1 := hb1.size
  rw [hzz] at hz1 hb1
  have hR2 := hR1.below hb1 (by omega)
  have hA2 := hA1.trans (hb1.mono (by omega))
  clear hR1 hA1 hb1 hzz hb0
  obtain ⟨bT, hbT⟩ : ∃ b, w1.heap.size = b := ⟨_, rfl⟩
  obtain ⟨w2, hw2⟩ : ∃ w2, (w1.alloc (.cells #[.int .i64 0, .int .i64 0, .int .i64 0, .int .i64 0, .int .i64 0, .int .i64 0, .int .i64 0, .int .i64 0, .int .i64 0, .int .i64 0, .int .i64 0, .int .i64 0, .int .i64 0, .int .i64 0, .int .i64 0, .int .i64 0, .int .i64 0] 81)).setRow bT (arr (tlyL P)) = w2 := ⟨_, rfl⟩
  have hT2 : Blk w2 bT 81 (arr (tlyL P)) := by rw [← hw2, ← hbT]; exact (Blk.new w1 _ _).row
  have hR3 : Blk w2 (w.heap.size + 1) 59 (arr (List.replicate 16 0)) := by rw [← hw2]; exact (hR2.alloc _).rowOff (by omega)
  have hA3 : Below w.heap.size w w2 := by rw [← hw2, ← hbT]; exact below_setRow' (hA2.alloc (by omega) _) (by omega) _
  try rw [hbT]
  try rw [hw2]
  clear hw2 hA2 hR2
  simp only [Act.put]
  have hz3 := hA3.size
  have hTb : w.heap.size + 1 < bT := by omega
  have hTz := hT2.lt
  clear hbT hz1
  go_loopg [] (mu P) (fun g wr => ∃ L, vsm L = true ∧ Alike m L P ∧ mu L ≤ g ∧ Blk wr (w.heap.size + 1) 59 (arr (List.replicate 16 0)) ∧ Blk wr bT 81 (arr (tlyL L)) ∧ Below w.heap.size w wr)
  case atStart => exact ⟨P, vsm_of_valid HV.out, fun _ _ => rfl, Nat.le_refl _, hR3, hT2, hA3⟩
  case round =>
    obtain ⟨L, hvL, haL, hgL, hR, hT, hA⟩ := hrel
    obtain ⟨wo, rfl⟩ : ∃ wx : World, wx = wr := ⟨_, rfl⟩
    obtain ⟨go, rfl⟩ : ∃ gg : Nat, gg = gk := ⟨_, rfl⟩
    have HVL := Lib.hid hvL
    have HAL := Lib.hid haL
    have hzo := hA.size
    have hTo := hT.lt
    have HGL := Lib.hid hgL
    clear hvL haL hgL
    go_wp2_with (first
      | (refine wpList_load_row rfl 81 (.tmp 7) rfl bT rfl 81 (arr (tlyL L)) (0, 0) _ hT Try.underlying81 rfl (HI.out L) ?_)
      | (refine wpList_store_row rfl 81 (.tmp 8) (.tmp 12) rfl wo.heap.size rfl (arr (tlyL L)) rfl 81 _ (Blk.new wo _ _) (HI.out L) (HSZ.out L) (arr_one _) ?_))
    obtain ⟨bB, hbB⟩ : ∃ b, wo.heap.size = b := ⟨_, rfl⟩
    obtain ⟨w3, hw3⟩ : ∃ w3, (wo.alloc (.cells #[.int .i64 0, .int .i64 0, .int .i64 0, .int .i64 0, .int .i64 0, .int .i64 0, .int .i64 0, .int .i64 0, .int .i64 0, .int .i64 0, .int .i64 0, .int .i64 0, .int .i64 0, .int .i64 0, .int .i64 0, .int .i64 0, .int .i64 0] 81)).setRow bB (arr (tlyL L)) = w3 := ⟨_, rfl⟩
    have hB3 : Blk w3 bB 81 (arr (tlyL L)) := by rw [← hw3, ← hbB]; exact (Blk.new wo _ _).row
    have hR3' : Blk w3 (w.heap.size + 1) 59 (arr (List.replicate 16 0)) := by rw [← hw3]; exact (hR.alloc _).rowOff (by omega)
    have hT3 : Blk w3 bT 81 (arr (tlyL L)) := by rw [← hw3]; exact (hT.alloc _).rowOff (by omega)
    have hA3' : Below w.heap.size w w3 := by rw [← hw3, ← hbB]; exact below_setRow' (hA.alloc (by omega) _) (by omega) _
    try rw [hbB]
    try rw [hw3]
    have hBB : bT < bB := by omega
    clear hw3 hbB hR hT hA hzo hTo
    go_loopw [9] (fun ii wr => ∃ k : Nat, ii = .int .i64 ((k + 1 : Nat) : Int) ∧ k * m ≤ 16 ∧ Blk wr (w.heap.size + 1) 59 (arr (List.replicate 16 0)) ∧ Blk wr bT 81 (arr (tlyL (goN st L k))) ∧ Blk wr bB 81 (arr (tlyL L)) ∧ Below w.heap.size w wr) (fun ii _ => 20 - (intOf ii).toNat)
    case atStart => exact ⟨0, rfl, by omega, hR3', hT3, hB3, hA3'⟩
    case round =>
      obtain ⟨k, rfl, hkm, hR, hT, hB, hA⟩ := hrel
      obtain ⟨wi, rfl⟩ : ∃ wx : World, wx = wr := ⟨_, rfl⟩
      have hk16 : k ≤ 16 := by
        rcases Nat.eq_zero_or_pos k with h | h
        · omega
        · have := Nat.le_mul_of_pos_right k (show 0 < m by omega); omega
      obtain ⟨p, hp⟩ : ∃ p, (k + 1) * m = p := ⟨_, rfl⟩
      have hp256 : p ≤ 32 := by rw [← hp, Nat.add_mul]; omega
      obtain ⟨x, hx⟩ : ∃ x, k + 1 = x := ⟨_, rfl⟩
      rw [hx] at hp ⊢
      have HPM := Lib.hid (wrapM3 hp hp256)
      obtain ⟨hG1, hG2, hG3⟩ := HMV.out.go HVL.out k hkm
      have HG1 := Lib.hid hG1
      have HG2 := Lib.hid hG2
      have HG3 := Lib.hid hG3
      clear hG1 hG2 hG3
      have HXK := Lib.hid hx
      have HPX := Lib.hid hp
      clear hx hp
      by_cases hlt : p ≤ 16
      · have hlt' : (p : Int) ≤ 16 := Int.ofNat_le.2 hlt
        have hxp : x < p := by rw [← HPX.out]; exact km_ne (by rw [← HXK.out]; omega) hm.1
        have hx1 : 1 ≤ x := by rw [← HXK.out]; omega
        obtain ⟨M, hM⟩ : ∃ M, goN st L k = M := ⟨_, rfl⟩
        have HM := Lib.hid hM
        rw [hM] at hT
        have hstep := HMV.out.step M x (by rw [← hM]; exact HG1.out) hx1 (by rw [HPX.out]; exact hlt)
        clear hM
        have e1 : (tlyL M).getD x 0 = eqc x M := by
          rw [List.getD_eq_getElem?_getD, List.getElem?_eq_getElem (by rw [tlyL_len]; omega), Option.getD_some, tlyL_at M (by omega)]
        have e2 : (tlyL M).getD p 0 = eqc p M := by
          rw [List.getD_eq_getElem?_getD, List.getElem?_eq_getElem (by rw [tlyL_len]; omega), Option.getD_some, tlyL_at M (by omega)]
        have hps := hstep.2.1
        unfold pstep at hps
        rw [HPX.out, e1, e2] at hps
        have hvM : vsm M = true := by rw [← HM.out]; exact HG1.out
        have hlM := (vsm_bd hvM).2.2.2
        have b1 := eqc_bd (x : Int) M
        have b2 := eqc_bd (p : Int) M
        have hcx : wi.cell? ⟨bT, x, none⟩ = some (.int .i64 (eqc x M)) := by
          rw [hT.cell x, arr_get _ x (by rw [tlyL_len]; omega), tlyL_at _ (by omega)]
        have hcp : wi.cell? ⟨bT, p, none⟩ = some (.int .i64 (eqc p M)) := by
          rw [hT.cell p, arr_get _ p (by rw [tlyL_len]; omega), tlyL_at _ (by omega)]
        obtain ⟨cx, hcxe⟩ : ∃ c, eqc (x : Int) M = c := ⟨_, rfl⟩
        obtain ⟨cp, hcpe⟩ : ∃ c, eqc (p : Int) M = c := ⟨_, rfl⟩
        rw [hcxe] at hps hcx b1
        rw [hcpe] at hps hcp b2
        have B1 : Hid (0 ≤ cx ∧ cx ≤ 16) := Lib.hid ⟨b1.1, by omega⟩
        have B2 : Hid (0 ≤ cp ∧ cp ≤ 16) := Lib.hid ⟨b2.1, by omega⟩
        obtain ⟨fx, hfx⟩ : ∃ c, (f cx cp).1 = c := ⟨_, rfl⟩
        obtain ⟨fy, hfy⟩ : ∃ c, (f cx cp).2 = c := ⟨_, rfl⟩
        rw [hfx, hfy] at hps
        have HPS : Hid (arr (tlyL (st M x)) = ((arr (tlyL M)).setIfInBounds x (.int .i64 fx)).setIfInBounds p (.int .i64 fy)) := Lib.hid (by rw [hps, arr_set, arr_set])
        have HFX := Lib.hid hfx
        have HFY := Lib.hid hfy
        have hTlt := hT.lt
        have hAz := hA.size
        have hx17 : (x : Int) < 17 := by omega
        have hp17 : (p : Int) < 17 := by omega
        have hfT := hT.free
        have hpN : p < 17 := by omega
        have hpN16 : p ≤ 16 := by omega
        have hne1 : w.heap.size + 1 ≠ bT := by omega
        have hne2 : bB ≠ bT := by omega
        have hle3 : w.heap.size ≤ bT := by omega
        clear hstep e1 e2 hps hvM hlM b1 b2 hcxe hcpe hfx hfy hlt
        obtain ⟨hpm1, hpm2⟩ := HPM.out
        go_wp2
        refine wp_region_two 18 20 [0, 1, 2, 3, 4, 5, 6, 7, 8, 9, 10, 11, 12, 13, 14, 15, 16, 17, 18, 19, 20]
          [.int .i64 x, .int .i64 x, .int .i64 m, .int .i64 p, .func (.func fn) pp cc, .int .i64 x, .pointer (some ⟨bT, x, none⟩), .int .i64 cx, .int .i64 x, .int .i64 m, .int .i64 p, .pointer (some ⟨bT, p, none⟩), .int .i64 cp, .tuple #[.int .i64 fx, .int .i64 fy], .tuple #[.int .i64 fx, .int .i64 fy], .int .i64 fx, .int .i64 fy, .pointer (some ⟨bT, x, none⟩), undef, .pointer (some ⟨bT, p, none⟩), undef]
          (fun w' => Below wi.heap.size wi w') (fun w' => ∃ wx, Below wi.heap.size wi wx ∧ w' = wx.setCell ⟨bT, x, none⟩ (.int .i64 fx)) (fun w' => ∃ wx, Below wi.heap.size wi wx ∧ w' = (wx.setCell ⟨bT, x, none⟩ (.int .i64 fx)).setCell ⟨bT, p, none⟩ (.int .i64 fy)) _ hmx (fun y hy => hy.below _) rfl rfl (by kernel_rfl) (by decide) (by decide) (by kernel_rfl) (by decide) rfl ?steps ?rest
        case steps =>
          simp only [putsOfG, Act.put, List.getElem?_toArray, List.getElem?_cons_succ, List.getElem?_cons_zero, Option.bind_some, Nat.reduceAdd, List.setIfInBounds_toArray, List.set_cons_zero, List.set_cons_succ]
          refine Twos.any rfl rfl (by decide) (by decide) (fun wq => ?_) ?_
          · go_simp
          refine Twos.any rfl rfl (by decide) (by decide) (fun wq => ?_) ?_
          · go_simp
          refine Twos.any rfl rfl (by decide) (by decide) (fun wq => ?_) ?_
          · go_simp
          refine Twos.any rfl rfl (by decide) (by decide) (fun wq => ?_) ?_
          · go_simp
          refine Twos.any rfl rfl (by decide) (by decide) (fun wq => ?_) ?_
          · go_simp
          refine Twos.any rfl rfl (by decide) (by decide) (fun wq => ?_) ?_
          · go_simp
          refine Twos.any rfl rfl (by decide) (by decide) (fun wq => ?_) ?_
          · go_simp
          refine Twos.early rfl rfl (by decide) (by decide) (by kernel_rfl) (fun wq hS => ?_) ?_
          · have hc := (hS.cell (p := ⟨bT, x, none⟩) hTlt).trans hcx
            go_simp
          refine Twos.any rfl rfl (by decide) (by decide) (fun wq => ?_) ?_
          · go_simp
          refine Twos.any rfl rfl (by decide) (by decide) (fun wq => ?_) ?_
          · go_simp
          refine Twos.any rfl rfl (by decide) (by decide) (fun wq => ?_) ?_
          · go_simp
          refine Twos.any rfl rfl (by decide) (by decide) (fun wq => ?_) ?_
          · go_simp
          refine Twos.early rfl rfl (by decide) (by decide) (by kernel_rfl) (fun wq hS => ?_) ?_
          · have hc := (hS.cell (p := ⟨bT, p, none⟩) hTlt).trans hcp
            go_simp
          refine Twos.early rfl rfl (by decide) (by decide) (by kernel_rfl) (fun wq hS => ?_) ?_
          · go_simp
            rw [← Array.append_assoc]
            refine (HW1.out wq (hA.trans (hS.mono hAz)) cx cp B1.out B2.out).mono ?_
            rintro e w5 ⟨rfl, hd5⟩
            exact ⟨by rw [HFX.out, HFY.out], hS.trans (Dr.below hd5 _)⟩
          refine Twos.any rfl rfl (by decide) (by decide) (fun wq => ?_) ?_
          · go_simp
          refine Twos.any rfl rfl (by decide) (by decide) (fun wq => ?_) ?_
          · go_simp
          refine Twos.any rfl rfl (by decide) (by decide) (fun wq => ?_) ?_
          · go_simp
          refine Twos.any rfl rfl (by decide) (by decide) (fun wq => ?_) ?_
          · go_simp
          refine Twos.first rfl rfl (fun wq hS => ?_) ?_
          · have hc := (hS.cell (p := ⟨bT, x, none⟩) hTlt).trans hcx
            have hf := (hT.below hS hTlt).free x
            go_simp
            exact ⟨wq, hS, rfl⟩
          refine Twos.any rfl rfl (by decide) (by decide) (fun wq => ?_) ?_
          · go_simp
          refine Twos.second rfl rfl (fun wq hS => ?_) ?_
          · obtain ⟨wx, hbx, rfl⟩ := hS
            have hBx := (hT.below hbx hTlt).set x (.int .i64 fx)
            have hc : ∃ u, (wx.setCell ⟨bT, x, none⟩ (.int .i64 fx)).cell? ⟨bT, p, none⟩ = some u := by
              rw [hBx.cell p]
              exact ⟨_, Array.getElem?_eq_getElem (by rw [Array.size_setIfInBounds, arr_size, tlyL_len]; exact hpN)⟩
            obtain ⟨u, hc⟩ := hc
            have hf := hBx.free p
            go_simp
            exact ⟨wx, hbx, rfl⟩
          exact Twos.nil
        case rest =>
          rintro wq ⟨wx, hbx, rfl⟩
          simp only [putsOfG, Act.put, List.getElem?_toArray, List.getElem?_cons_succ, List.getElem?_cons_zero, Option.bind_some, Nat.reduceAdd, List.setIfInBounds_toArray, List.set_cons_zero, List.set_cons_succ]
          go_wp2_with fail
          clear hpm1 hpm2
          go_roundw
          case rel =>
            have hTx := ((hT.below hbx hTlt).set x (.int .i64 fx)).set p (.int .i64 fy)
            rw [← HPS.out] at hTx
            refine ⟨x, by go_num, by rw [HPX.out]; exact hpN16, ?_, ?_, ?_, ?_⟩
            · exact ((hR.below hbx hR.lt).off (by exact hne1) _).off (by exact hne1) _
            · rw [show goN st L x = st M x from by rw [← HXK.out, ← HM.out]; rfl]; exact hTx
            · exact ((hB.below hbx hB.lt).off (by exact hne2) _).off (by exact hne2) _
            · exact ((hA.trans (hbx.mono hAz)).setCell (by exact hle3) _).setCell (by exact hle3) _
          case measure => simp [intOf] <;> omega
      · have hlt' : ¬ (p : Int) ≤ 16 := fun h => hlt (Int.ofNat_le.1 h)
        obtain ⟨M, hM⟩ : ∃ M, goN st L k = M := ⟨_, rfl⟩
        rw [hM] at hT HG1 HG2 HG3
        have hkk : ∀ k', k' * m ≤ 16 → k' ≤ k := fun k' h => by
          rcases Nat.lt_or_ge k k' with h1 | h1
          · have h2 : (k + 1) * m ≤ k' * m := Nat.mul_le_mul_right m h1
            rw [HXK.out, HPX.out] at h2; omega
          · exact h1
        have HKK := Lib.hid hkk
        have HTD := Lib.hid (tdiag_any M HG1.out)
        have hiD : (Try.prog.info? 59).map (·.size) = some (arr (pad (mrg M))).size := by rw [arr_size, pad_len (by rw [mrg_len]; exact (vsm_bd HG1.out).2.2.2)]; exact T_info35
        have hsD : (arr (pad (mrg M))).size = (arr (List.replicate 16 0)).size := by rw [arr_size, arr_size, pad_len (by rw [mrg_len]; exact (vsm_bd HG1.out).2.2.2)]; rfl
        have hAz := hA.size
        have hRlt := hR.lt
        by_cases he : tlyL M = tlyL L
        · have HD : Hid (decide (tlyL M = tlyL L) = true) := Lib.hid (decide_eq_true he)
          have heq := tly_eqc HG1.out HVL.out he
          have hst : ∀ k', 1 ≤ k' → k' * m ≤ 16 → still M k' := fun k' h1 h2 => by
            rcases HG3.out with h3 | ⟨h3, -⟩
            · rw [HMV.out.mu_eq _ _ heq] at h3; omega
            · exact HMV.out.still_eq _ _ _ (fun v => (heq v).symm) (h3 k' h1 (HKK.out k' h2))
          have HST := Lib.hid hst
          clear he heq hst hkk hM
          obtain ⟨hpm1, hpm2⟩ := HPM.out
          go_wp2_with (first
            | (refine wpList_load_row rfl 81 (.tmp 7) rfl bT rfl 81 (arr (tlyL M)) (0, 0) _ hT Try.underlying81 rfl (HI.out M) ?_)
            | (refine wpList_load_row rfl 81 (.tmp 8) rfl bB rfl 81 (arr (tlyL L)) (0, 0) _ hB Try.underlying81 rfl (HI.out L) ?_)
            | (refine wpList_eqlT rfl (.tmp 38) (.tmp 39) 81 rfl (tlyL M) (tlyL L) (tlyL_len _) (tlyL_len _) rfl rfl ?_; rw [HD.out])
            | (go_at_call 94; refine (HTD.out _).mono ?_; rintro e w8 ⟨rfl, hb8⟩; have hR8 := hR.below hb8 hRlt)
            | (refine wpList_store_row rfl 59 (.tmp 6) (.tmp 42) rfl (w.heap.size + 1) rfl (arr (pad (mrg M))) rfl 59 _ hR8 hiD hsD (arr_one _) ?_))
          clear hpm1 hpm2
          refine bodyPost_ret (results_cell_row rfl _ _ (w.heap.size + 1) 59 (arr (pad (mrg M))) (0, 0) _ rfl hR8.row Try.underlying59 rfl hiD) rfl ?_
          exact ⟨M, HG1.out, HG2.out.trans HAL.out, HST.out, rfl, below_setRow' (hA.trans (hb8.mono hAz)) (by omega) _⟩
        · have HD : Hid (decide (tlyL M = tlyL L) = false) := Lib.hid (decide_eq_false he)
          have hmu : mu M < mu L := by
            rcases HG3.out with h3 | ⟨-, h3⟩
            · exact h3
            · exact absurd (eqc_tly h3) he
          have HMU := Lib.hid hmu
          clear he hmu hkk hM
          obtain ⟨hpm1, hpm2⟩ := HPM.out
          go_wp2_with (first
            | (refine wpList_load_row rfl 81 (.tmp 7) rfl bT rfl 81 (arr (tlyL M)) (0, 0) _ hT Try.underlying81 rfl (HI.out M) ?_)
            | (refine wpList_load_row rfl 81 (.tmp 8) rfl bB rfl 81 (arr (tlyL L)) (0, 0) _ hB Try.underlying81 rfl (HI.out L) ?_)
            | (refine wpList_eqlT rfl (.tmp 38) (.tmp 39) 81 rfl (tlyL M) (tlyL L) (tlyL_len _) (tlyL_len _) rfl rfl ?_; rw [HD.out]))
          clear hpm1 hpm2
          go_roundg (mu M)
          case measure =>
            have h1 := HGL.out
            have h2 := HMU.out
            omega
          case rel => exact ⟨M, HG1.out, HG2.out.trans HAL.out, Nat.le_refl _, hR, hT, hA⟩
end Go.Proofs.Ythafbdpeignccaa
namespace Go.Proofs.Ythafbdpeignccaa
open NP
set_option linter.unusedVariables false
/-- one part into one room -/
def mvT (T : List Int) (v x : Nat) : List Int := (T.set v (T.getD v 0 - 1)).set (v - x) ((T.set v (T.getD v 0 - 1)).getD (v - x) 0 + 1)
def pathT : List Int → List Int → Bool
  | [], _ => true
  | x :: r, T => (List.range 17).any fun v => decide (x.toNat ≤ v) && decide (T.getD v 0 ≠ 0) && pathT r (mvT T v x.toNat)
/-- what the program keeps: each once -/
def raStep (A : List (List Int)) (T : List Int) (v x : Nat) : List (List Int) := if T.getD v 0 = 0 then A else if A.contains (mvT T v x) then A else A ++ [mvT T v x]
/-- rooms from x up, n of them -/
def raRow (A : List (List Int)) (T : List Int) (x n : Nat) : List (List Int) := (List.range n).foldl (fun A j => raStep A T (x + j) x) A
def raN (R : List (List Int)) (x : Nat) (n : Nat) : List (List Int) := (R.take n).foldl (fun A T => raRow A T x (17 - x)) []
theorem raRow_succ (A : List (List Int)) (T : List Int) (x n : Nat) : raRow A T x (n + 1) = raStep (raRow A T x n) T (x + n) x := by
  unfold raRow; rw [List.range_succ, List.foldl_append]; rfl
theorem raN_succ (R : List (List Int)) (x n : Nat) (h : n < R.length) : raN R x (n + 1) = raRow (raN R x n) R[n] x (17 - x) := by
  unfold raN; rw [List.take_succ_eq_append_getElem h, List.foldl_append]; rfl
theorem raStep_any (p : List Int → Bool) (A : List (List Int)) (T : List Int) (v x : Nat) : (raStep A T v x).any p = (A.any p || (decide (T.getD v 0 ≠ 0) && p (mvT T v x))) := by
  unfold raStep
  obtain ⟨g, hg⟩ : ∃ g, T.getD v 0 = g := ⟨_, rfl⟩
  obtain ⟨L, hL⟩ : ∃ L, mvT T v x = L := ⟨_, rfl⟩
  rw [hg, hL]
  clear hg hL
  by_cases h : g = 0
  · rw [if_pos h]; simp [h]
  · rw [if_neg h]
    by_cases h2 : A.contains L = true
    · rw [if_pos h2]
      cases hp : p L with
      | false => simp
      | true =>
        have : A.any p = true := List.any_eq_true.2 ⟨_, by simpa using h2, hp⟩
        simp [this]
    · rw [if_neg h2, List.any_append]
      simp [h]
theorem raRow_any (p : List Int → Bool) (A : List (List Int)) (T : List Int) (x n : Nat) : (raRow A T x n).any p = (A.any p || (List.range n).any fun j => decide (T.getD (x + j) 0 ≠ 0) && p (mvT T (x + j) x)) := by
  induction n with
  | zero => simp [raRow]
  | succ n ih => rw [raRow_succ, raStep_any, ih, List.range_succ, List.any_append]; simp [Bool.or_assoc]
theorem any_shift (q : Nat → Bool) (x : Nat) (hx : x ≤ 17) : ((List.range (17 - x)).any fun j => q (x + j)) = (List.range 17).any fun v => decide (x ≤ v) && q v := by
  rw [Bool.eq_iff_iff, List.any_eq_true, List.any_eq_true]
  constructor
  · rintro ⟨j, hj, h⟩
    have := List.mem_range.1 hj
    exact ⟨x + j, by simp; omega, by simp [h]⟩
  · rintro ⟨v, hv, h⟩
    have := List.mem_range.1 hv
    simp only [Bool.and_eq_true, decide_eq_true_eq] at h
    exact ⟨v - x, by simp; omega, by rw [show x + (v - x) = v from by omega]; exact h.2⟩
theorem raN_any (p : List Int → Bool) (R : List (List Int)) (x : Nat) (hx : x ≤ 17) : ∀ n, n ≤ R.length → (raN R x n).any p = (R.take n).any fun T => (List.range 17).any fun v => decide (x ≤ v) && decide (T.getD v 0 ≠ 0) && p (mvT T v x)
  | 0, _ => by simp [raN]
  | n + 1, h => by
    rw [raN_succ R x n (by omega), raRow_any, raN_any p R x hx n (by omega), List.take_succ_eq_append_getElem (by omega), List.any_append, any_shift (fun v => decide (R[n].getD v 0 ≠ 0) && p (mvT R[n] v x)) x hx]
    simp [Bool.and_assoc]
theorem raN_path (R : List (List Int)) (x : Int) (hx : x.toNat ≤ 17) (r : List Int) : (raN R x.toNat R.length).any (pathT r) = R.any (pathT (x :: r)) := by
  rw [raN_any (pathT r) R x.toNat hx R.length (Nat.le_refl _), List.take_length]
  rfl
/-- the model: the first room of each kind -/
def fitsF : List Int → List Int → Bool
  | [], left => sumL left == 0
  | x :: r, left => (List.range left.length).any fun i => decide (x ≤ left.getD i 0) && !(left.take i).contains (left.getD i 0) && fitsF r (left.set i (left.getD i 0 - x))
theorem eqc_setL (L : List Int) (i : Nat) (hi : i < L.length) (y k : Int) : eqc k (L.set i y) + (if L[i] = k then 1 else 0) = eqc k L + (if y = k then 1 else 0) := by
  induction L generalizing i with
  | nil => simp at hi
  | cons x r ih =>
    cases i with
    | zero => simp only [List.set_cons_zero, eqc_cons, List.getElem_cons_zero]; omega
    | succ i => simp only [List.set_cons_succ, eqc_cons, List.getElem_cons_succ]; have := ih i (by simpa using hi); omega
theorem tly_getD (L : List Int) {v : Nat} (h : v < 17) : (tlyL L).getD v 0 = eqc v L := by
  rw [List.getD_eq_getElem?_getD, List.getElem?_eq_getElem (by rw [tlyL_len]; exact h), Option.getD_some, tlyL_at L h]
theorem tly_mv (L : List Int) (i : Nat) (hi : i < L.length) (v x : Nat) (hv : L[i] = (v : Int)) (hx : 1 ≤ x) (hxv : x ≤ v) (hv16 : v ≤ 16) : tlyL (L.set i (L[i] - (x : Int))) = mvT (tlyL L) v x := by
  have hmv : mvT (tlyL L) v x = ((tlyL L).set v (eqc v L - 1)).set (v - x) (eqc ((v - x : Nat) : Int) L + 1) := by
    unfold mvT
    have e1 : ((tlyL L).set v ((tlyL L).getD v 0 - 1)).getD (v - x) 0 = eqc ((v - x : Nat) : Int) L := by
      rw [List.getD_eq_getElem?_getD, List.getElem?_set_ne (by omega), ← List.getD_eq_getElem?_getD, tly_getD L (by omega)]
    rw [e1, tly_getD L (by omega)]
  rw [hmv]
  apply List.ext_getElem
  · simp [tlyL_len]
  · intro k h1 h2
    have hk : k < 17 := by rwa [tlyL_len] at h1
    rw [tlyL_at _ hk]
    have hs := eqc_setL L i hi (L[i] - (x : Int)) (k : Int)
    rw [List.getElem_set]
    by_cases a : v - x = k
    · subst a
      rw [if_pos rfl]
      rw [if_neg (show ¬ L[i] = ((v - x : Nat) : Int) from by omega), if_pos (show L[i] - (x : Int) = ((v - x : Nat) : Int) from by omega)] at hs
      omega
    · rw [if_neg a, List.getElem_set]
      by_cases b : v = k
      · subst b
        rw [if_pos rfl]
        rw [if_pos hv, if_neg (show ¬ L[i] - (x : Int) = (v : Int) from by omega)] at hs
        omega
      · rw [if_neg b, tlyL_at L hk]
        rw [if_neg (show ¬ L[i] = (k : Int) from by omega), if_neg (show ¬ L[i] - (x : Int) = (k : Int) from by omega)] at hs
        omega
theorem sumL_setL (L : List Int) (i : Nat) (hi : i < L.length) (y : Int) : sumL (L.set i y) + L[i] = sumL L + y := by
  induction L generalizing i with
  | nil => simp at hi
  | cons x r ih =>
    cases i with
    | zero => simp only [List.set_cons_zero, sumL, List.getElem_cons_zero]; omega
    | succ i => simp only [List.set_cons_succ, sumL, List.getElem_cons_succ]; have := ih i (by simpa using hi); omega
/-- the first one that is v -/
theorem first_at : ∀ (L : List Int) (v : Int), v ∈ L → ∃ i, ∃ hi : i < L.length, L[i] = v ∧ (L.take i).contains v = false
  | x :: r, v, h => by
    by_cases e : x = v
    · exact ⟨0, by simp, by simp [e], by simp⟩
    · obtain ⟨i, hi, h1, h2⟩ := first_at r v ((List.mem_cons.1 h).resolve_left (fun h => e h.symm))
      refine ⟨i + 1, by simp; omega, by simpa using h1, ?_⟩
      rw [List.take_succ_cons, List.contains_cons, h2]
      simp
      exact fun h => e h.symm
theorem fits_path : ∀ (P L : List Int), (∀ x ∈ P, 1 ≤ x) → (∀ y ∈ L, 0 ≤ y ∧ y ≤ 16) → sumL L = sumL P → fitsF P L = pathT P (tlyL L)
  | [], L, _, _, hs => by
    unfold fitsF pathT
    rw [hs]; rfl
  | x :: r, L, hP, hL, hs => by
    have hx := hP x (by simp)
    have ih : ∀ i (hi : i < L.length), x ≤ L[i] → fitsF r (L.set i (L[i] - x)) = pathT r (mvT (tlyL L) L[i].toNat x.toNat) := fun i hi hle => by
      have hb := hL _ (List.getElem_mem hi)
      have hset := sumL_setL L i hi (L[i] - x)
      rw [fits_path r (L.set i (L[i] - x)) (fun y hy => hP y (by simp [hy])) (fun y hy => by
        rcases List.mem_or_eq_of_mem_set hy with h | h
        · exact hL y h
        · omega) (by rw [show sumL (x :: r) = x + sumL r from rfl] at hs; omega)]
      have h1 := tly_mv L i hi L[i].toNat x.toNat (by omega) (by omega) (by omega) (by omega)
      rw [show ((x.toNat : Nat) : Int) = x from by omega] at h1
      rw [h1]
    unfold fitsF pathT
    rw [Bool.eq_iff_iff, List.any_eq_true, List.any_eq_true]
    constructor
    · rintro ⟨i, hi, h⟩
      have hi := List.mem_range.1 hi
      have e : L.getD i 0 = L[i] := by simp [List.getD_eq_getElem?_getD, hi]
      rw [e] at h
      simp only [Bool.and_eq_true, decide_eq_true_eq] at h
      obtain ⟨⟨h1, -⟩, h3⟩ := h
      have hb := hL _ (List.getElem_mem hi)
      rw [ih i hi h1] at h3
      refine ⟨L[i].toNat, by simp; omega, ?_⟩
      simp only [Bool.and_eq_true, decide_eq_true_eq]
      refine ⟨⟨by omega, ?_⟩, h3⟩
      rw [tly_getD L (by omega)]
      have := eqc_pos (k := ((L[i].toNat : Nat) : Int)) (L := L) (by rw [show ((L[i].toNat : Nat) : Int) = L[i] from by omega]; exact List.getElem_mem hi)
      omega
    · rintro ⟨v, hv, h⟩
      have hv := List.mem_range.1 hv
      simp only [Bool.and_eq_true, decide_eq_true_eq] at h
      obtain ⟨⟨h1, h2⟩, h3⟩ := h
      rw [tly_getD L hv] at h2
      have hm : (v : Int) ∈ L := eqc_mem (by have := (eqc_bd (v : Int) L).1; omega)
      obtain ⟨i, hi, e1, e2⟩ := first_at L v hm
      have e : L.getD i 0 = L[i] := by simp [List.getD_eq_getElem?_getD, hi]
      refine ⟨i, by simpa using hi, ?_⟩
      rw [e]
      simp only [Bool.and_eq_true, decide_eq_true_eq]
      refine ⟨⟨by omega, by rw [e1, e2]; rfl⟩, ?_⟩
      rw [ih i hi (by omega), e1, Int.toNat_natCast]; exact h3
end Go.Proofs.Ythafbdpeignccaa
namespace Go.Proofs.Ythafbdpeignccaa
open NP
set_option linter.unusedVariables false
theorem nodup_le {α : Type} [DecidableEq α] : ∀ (A B : List α), A.Nodup → (∀ x ∈ A, x ∈ B) → A.length ≤ B.length
  | [], _, _, _ => Nat.zero_le _
  | a :: A, B, hn, hs => by
    have hn' := List.nodup_cons.1 hn
    have ha := hs a (by simp)
    have h1 := nodup_le A (B.erase a) hn'.2 (fun x hx => (List.mem_erase_of_ne (fun e => hn'.1 (by rw [← e]; exact hx))).2 (hs x (by simp [hx])))
    have h2 := List.length_erase_of_mem ha
    have h3 := List.length_pos_of_mem ha
    rw [List.length_cons]
    omega
/-- the tally of so many rooms -/
def Rm (n : Nat) (T : List Int) : Prop := ∃ L, T = tlyL L ∧ (∀ y ∈ L, 0 ≤ y ∧ y ≤ 16) ∧ L.length = n ∧ sumL L ≤ 16
theorem Rm.len {n : Nat} {T : List Int} (h : Rm n T) : T.length = 17 := by obtain ⟨L, rfl, _⟩ := h; exact tlyL_len L
theorem Rm.bd {n : Nat} {T : List Int} (h : Rm n T) {k : Nat} (hk : k < 17) : 0 ≤ T.getD k 0 ∧ T.getD k 0 ≤ n := by
  obtain ⟨L, rfl, -, hl, -⟩ := h
  rw [tly_getD L hk]
  have := eqc_bd (k : Int) L
  omega
theorem Rm.move {n : Nat} {T : List Int} (h : Rm n T) {v x : Nat} (hx : 1 ≤ x) (hxv : x ≤ v) (hv : v ≤ 16) (ht : T.getD v 0 ≠ 0) : Rm n (mvT T v x) := by
  obtain ⟨L, rfl, hb, hl, hs⟩ := h
  rw [tly_getD L (by omega)] at ht
  have hm : (v : Int) ∈ L := eqc_mem (by have := (eqc_bd (v : Int) L).1; omega)
  obtain ⟨i, hi, e1, -⟩ := first_at L v hm
  refine ⟨L.set i (L[i] - (x : Int)), (tly_mv L i hi v x e1 hx hxv hv).symm, fun y hy => ?_, by rw [List.length_set]; exact hl, ?_⟩
  · rcases List.mem_or_eq_of_mem_set hy with h | h
    · exact hb y h
    · omega
  · have := sumL_setL L i hi (L[i] - (x : Int))
    omega
theorem Rm.of {n : Nat} {T : List Int} (h : Rm n T) : T ∈ all16.map fun N => ((tlyL (N.map Int.ofNat)).set 0 ((n : Int) - (N.length : Int))) := by
  obtain ⟨L, rfl, hb, hl, hs⟩ := h
  have hf : ∀ x ∈ L.filter (fun x => x != (0 : Int)), 1 ≤ x := fun x hx => by
    obtain ⟨h1, h2⟩ := List.mem_filter.1 hx
    have := hb x h1
    have h3 : x ≠ 0 := by simpa using h2
    omega
  have hsum := Dw_filter (fun x => x) 0 L
  rw [← sum_Dw, ← sum_Dw] at hsum
  have hlen := Dw_filter (fun _ => 1) 0 L
  rw [← len_Dw, ← len_Dw] at hlen
  have hv : valid (mrg (L.filter fun x => x != (0 : Int))) = true := mrg_ok (vsm_iff.2 ⟨hf, by omega⟩)
  obtain ⟨N, hN, he⟩ := mem_all16 hv
  refine List.mem_map.2 ⟨N, hN, ?_⟩
  rw [← he]
  have hNl : (N.length : Int) = ((L.filter fun x => x != (0 : Int)).length : Int) := by
    have h1 := congrArg List.length he
    rw [mrg_len, List.length_map] at h1
    omega
  apply List.ext_getElem
  · simp [tlyL_len]
  · intro k h1 h2
    have hk : k < 17 := by rwa [tlyL_len] at h2
    rw [List.getElem_set, tlyL_at L hk]
    by_cases e : 0 = k
    · subst e
      rw [if_pos rfl, show ((0 : Nat) : Int) = 0 from rfl]
      omega
    · rw [if_neg e, tlyL_at _ hk, mrg_eqc]
      have h3 := Dw_filter (fun x => if x = (k : Int) then 1 else 0) 0 L
      rw [← eqc_Dw, ← eqc_Dw, if_neg (show ¬ ((0 : Int) = (k : Int)) from by omega)] at h3
      omega
theorem rooms_le {n : Nat} {A : List (List Int)} (hn : A.Nodup) (h : ∀ T ∈ A, Rm n T) : A.length ≤ 915 := by
  have h1 := nodup_le A _ hn fun T hT => (h T hT).of
  rw [List.length_map] at h1
  have h2 : all16.length = 915 := by decide +kernel
  omega
/-- each state but once -/
def RmS (n : Nat) (A : List (List Int)) : Prop := A.Nodup ∧ ∀ T ∈ A, Rm n T
theorem RmS.step {n : Nat} {A : List (List Int)} (h : RmS n A) {T : List Int} (hT : Rm n T) {v x : Nat} (hx : 1 ≤ x) (hxv : x ≤ v) (hv : v ≤ 16) : RmS n (raStep A T v x) := by
  unfold raStep
  split
  · exact h
  · rename_i h1
    split
    · exact h
    · rename_i h2
      refine ⟨?_, fun S hS => ?_⟩
      · rw [List.nodup_append]
        refine ⟨h.1, by simp, fun a ha b hb => ?_⟩
        rw [List.mem_singleton] at hb
        subst hb
        exact fun e => h2 (by simp; rw [← e]; exact ha)
      · rcases List.mem_append.1 hS with hS | hS
        · exact h.2 S hS
        · rw [List.mem_singleton.1 hS]; exact hT.move hx hxv hv h1
theorem RmS.row {n : Nat} {A : List (List Int)} (h : RmS n A) {T : List Int} (hT : Rm n T) {x : Nat} (hx : 1 ≤ x) : ∀ m, x + m ≤ 17 → RmS n (raRow A T x m)
  | 0, _ => by simpa [raRow] using h
  | m + 1, hm => by rw [raRow_succ]; exact (h.row hT hx m (by omega)).step hT hx (by omega) (by omega)
theorem RmS.all {n : Nat} {R : List (List Int)} (hR : ∀ T ∈ R, Rm n T) {x : Nat} (hx : 1 ≤ x) (hx17 : x ≤ 17) : ∀ m, m ≤ R.length → RmS n (raN R x m)
  | 0, _ => ⟨by simp [raN], fun T hT => by simp [raN] at hT⟩
  | m + 1, hm => by
    rw [raN_succ R x m (by omega)]
    exact (RmS.all hR hx hx17 m (by omega)).row (hR _ (List.getElem_mem _)) hx _ (by omega)
end Go.Proofs.Ythafbdpeignccaa
namespace Go.Proofs.Ythafbdpeignccaa
open Go.RowKit NP
set_option maxRecDepth 8000
set_option linter.unusedVariables false
set_option linter.unusedSimpArgs false
set_option maxRecDepth 100000 in
set_option maxHeartbeats 4000000 in
theorem slIndex_any (lo hi : Nat) (v : Value) (R : List (List Int)) (L : List Int) (hR : ∀ T ∈ R, T.length = 17) (hL : L.length = 17) (hl : R.length ≤ 100000) (w : World) (h : OwnW w lo hi 81 17 v R) :
    Calls Try.prog 124 #[v, .agg (arr L)] w fun e w' => ∃ k : Int, e = .returned (.int .i64 k) ∧ decide (0 ≤ k) = R.contains L ∧ Below w.heap.size w w' := by
  have hmx : Try.prog.follows .mixedOrders = true := by kernel_rfl
  have hiL : (Try.prog.info? 81).map (·.size) = some L.length := by rw [hL]; exact T_tal
  have hb0 := Blk.new w 81 (arr L)
  obtain ⟨w1, hw1⟩ : ∃ w1, w.alloc (.cells (arr L) 81) = w1 := ⟨_, rfl⟩
  rw [hw1] at hb0
  have h1 : OwnW w1 lo hi 81 17 v R := by rw [← hw1]; exact h.alloc _
  have hA1 : Below w.heap.size w w1 := by rw [← hw1]; exact (Below.refl _ _).alloc (Nat.le_refl _) _
  have hB0 : w1.rangeAt w.heap.size 0 (ints L) := rangeAt_blk hb0 0 (fun j hj => by rw [Nat.zero_add])
  obtain ⟨aV, cV, rfl⟩ := h.form
  have H1 := Lib.hid h1
  have HR := Lib.hid hR
  clear h h1 hb0 hR
  go_enter Try.func124, Try.ntmps124
  go_wp2_with fail
  try rw [hw1]
  go_loopw [8] (fun ii wr => ∃ k : Nat, ii = .int .i64 (k : Int) ∧ k ≤ R.length ∧ Dr w1 wr ∧ Hid (∀ j (h : j < R.length), j < k → R[j] ≠ L)) (fun ii _ => R.length - (intOf ii).toNat)
  case atStart => exact ⟨0, rfl, Nat.zero_le _, Dr.refl _, Lib.hid (fun j _ hj => by omega)⟩
  case round =>
    obtain ⟨k, rfl, hk, hdr, HN⟩ := hrel
    by_cases hlt : k < R.length
    · have hlt' : (k : Int) < (R.length : Int) := by omega
      have hT17 := HR.out R[k] (List.getElem_mem hlt)
      obtain ⟨gV, c', hvv, -, -, hrange, -⟩ := H1.out.range hlt
      injection hvv with hvv hvn hvc
      subst hvv
      clear hvn hvc
      have hR0 := hrange 0 R[k] (by omega) (fun j hj => by rw [Nat.zero_add])
      rw [Nat.add_zero] at hR0
      have hiT : (Try.prog.info? 81).map (·.size) = some R[k].length := by rw [hT17]; exact T_tal
      obtain ⟨T, hT⟩ : ∃ T, R[k] = T := ⟨_, rfl⟩
      rw [hT] at hT17 hR0 hiT
      have HT := Lib.hid hT
      clear hrange hT
      go_wp2_with fail
      refine wp_region_vals [0, 1, 2, 3, 4, 5] [.agg (arr L), .slice (some ⟨gV, 0, none⟩) R.length cV, .int .i64 k, .pointer (some ⟨gV, k * 17, none⟩), .agg (arr T), .bool (decide (L = T))] (fun w' => Dr wr w') _ hmx (fun _ h => h) rfl rfl (by kernel_rfl) (by kernel_rfl) rfl ?steps ?rest
      case steps =>
        simp only [putsOfG, Act.put, List.getElem?_toArray, List.getElem?_cons_succ, List.getElem?_cons_zero, Option.bind_some, Nat.reduceAdd, List.setIfInBounds_toArray, List.set_cons_zero, List.set_cons_succ]
        refine StepsG.cons rfl rfl (fun wq hS => ?_) ?_
        · have s1 := rangeAt_dr (hdr.trans hS) hB0
          unfold Oper.wp
          rw [exec_loadR 81 (.tmp 3) rfl ⟨w.heap.size, 0, none⟩ rfl (run_load_part wq w.heap.size 0 81 L _ s1 Try.underlying81 rfl hiL)]
          exact ⟨rfl, hS⟩
        refine StepsG.cons rfl rfl (fun wq hS => ?_) ?_
        · go_simp
        refine StepsG.cons rfl rfl (fun wq hS => ?_) ?_
        · go_simp
        refine StepsG.cons rfl rfl (fun wq hS => ?_) ?_
        · go_simp
        refine StepsG.cons rfl rfl (fun wq hS => ?_) ?_
        · have s1 := rangeAt_dr (hdr.trans hS) hR0
          unfold Oper.wp
          rw [exec_loadR 81 (.tmp 14) rfl ⟨gV, k * 17, none⟩ rfl (run_load_part wq gV (k * 17) 81 T _ s1 Try.underlying81 rfl hiT)]
          exact ⟨rfl, hS⟩
        refine StepsG.cons rfl rfl (fun wq hS => ?_) ?_
        · unfold Oper.wp
          rw [exec_eql 81 81 (.tmp 11) (.tmp 15) rfl rfl rfl T_guardT (T_eqT 9998 L T hL hT17 wq)]
          exact ⟨rfl, hS⟩
        exact StepsG.nil
      case rest =>
        intro wq hS1
        simp only [putsOfG, Act.put, List.getElem?_toArray, List.getElem?_cons_succ, List.getElem?_cons_zero, Option.bind_some, Nat.reduceAdd, List.setIfInBounds_toArray, List.set_cons_zero, List.set_cons_succ]
        have hdq := hdr.trans hS1
        by_cases he : L = T
        · have hdec : decide (L = T) = true := decide_eq_true he
          rw [hdec]
          have HC : Hid (R.contains L = true) := Lib.hid (by simp; rw [he, ← HT.out]; exact List.getElem_mem hlt)
          clear hdec he
          go_wp2_with fail
          go_ret
          exact ⟨(k : Int), rfl, by rw [HC.out]; simp, hA1.trans (hdq.below _)⟩
        · have hdec : decide (L = T) = false := decide_eq_false he
          rw [hdec]
          clear hdec
          go_wp2_with fail
          go_roundw
          case rel => exact ⟨k + 1, by go_num, by omega, hdq, Lib.hid (fun j hj h1 => by
            rcases Nat.lt_or_ge j k with h3 | h3
            · exact HN.out j hj h3
            · obtain rfl : j = k := by omega
              rw [HT.out]; exact fun e => he e.symm)⟩
          case measure => simp [intOf] <;> omega
    · obtain rfl : k = R.length := by omega
      have HC : Hid (R.contains L = false) := Lib.hid (by
        rw [Bool.eq_false_iff]
        intro hc
        have hm : L ∈ R := by simpa using hc
        obtain ⟨j, hj, e⟩ := List.getElem_of_mem hm
        exact HN.out j hj hj e)
      clear hlt
      go_wp2_with fail
      go_ret
      exact ⟨-1, rfl, by rw [HC.out]; rfl, hA1.trans (hdr.below _)⟩
set_option maxHeartbeats 1000000 in
theorem slContains_any (lo hi : Nat) (v : Value) (R : List (List Int)) (L : List Int) (hR : ∀ T ∈ R, T.length = 17) (hL : L.length = 17) (hl : R.length ≤ 100000) (w : World) (h : OwnW w lo hi 81 17 v R) :
    Calls Try.prog 122 #[v, .agg (arr L)] w fun e w' => e = .returned (.bool (R.contains L)) ∧ Below w.heap.size w w' := by
  have hiL : (Try.prog.info? 81).map (·.size) = some (arr L).size := by rw [arr_size, hL]; exact T_tal
  have hb0 := Blk.new w 81 (arr L)
  have hA1 : Below w.heap.size w (w.alloc (.cells (arr L) 81)) := (Below.refl _ _).alloc (Nat.le_refl _) _
  have h1 := h.alloc (.cells (arr L) 81)
  have HR := Lib.hid hR
  clear hR h
  go_enter Try.func122, Try.ntmps122
  go_wp2_with (first
    | (refine wpList_load_row rfl 81 (.tmp 3) rfl w.heap.size rfl 81 (arr L) (0, 0) _ hb0 Try.underlying81 rfl hiL ?_)
    | (go_at_call 124; refine (slIndex_any lo hi v R L HR.out hL hl _ h1).mono ?_; rintro e w2 ⟨k, rfl, hk, hb2⟩; have hk' : decide (k ≥ 0) = R.contains L := hk))
  go_ret
  exact ⟨by show Ending.returned (.bool (decide (L ∈ R))) = _; rw [show R.contains L = decide (L ∈ R) from by simp], hA1.trans (hb2.mono hA1.size)⟩
end Go.Proofs.Ythafbdpeignccaa
namespace Go.Proofs.Ythafbdpeignccaa
open Go.RowKit NP
set_option maxRecDepth 8000
set_option linter.unusedVariables false
set_option linter.unusedSimpArgs false
theorem T_tlinfo : ∃ i : TypeInfo, Try.prog.info? 81 = some i ∧ i.zero = some (.agg (arr (List.replicate 17 0))) ∧ i.size = 17 ∧ i.bytes = 136 := by
  refine ⟨_, rfl, ?_, ?_, ?_⟩ <;> kernel_rfl
theorem arr_getD (L : List Int) (i : Nat) (hi : i < L.length) : (arr L)[i]? = some (.int .i64 (L.getD i 0)) := by
  rw [arr_get _ i hi]; simp [List.getD_eq_getElem?_getD, hi]
set_option maxRecDepth 100000 in
set_option maxHeartbeats 4000000 in
theorem roomsAfter_any (n x : Nat) (hn : n ≤ 1000) (hx : 1 ≤ x ∧ x ≤ 16) (lo hi : Nat) (v : Value) (R : List (List Int)) (hR : ∀ T ∈ R, Rm n T) (hl : R.length ≤ 1000) (w : World) (h : OwnW w lo hi 81 17 v R) :
    Calls Try.prog 112 #[v, .int .i64 (x : Int)] w fun e w' => ∃ v', e = .returned v' ∧ OwnW w' w.heap.size w'.heap.size 81 17 v' (raN R x R.length) ∧ Below w.heap.size w w' := by
  obtain ⟨i0, hi0, hz0, hz1, hz2⟩ := T_tlinfo
  obtain ⟨aV, cV, rfl⟩ := h.form
  have H := Lib.hid h
  have HR := Lib.hid hR
  clear h hR
  go_enter Try.func112, Try.ntmps112
  go_wp2_with fail
  go_loopw [5, 12] (fun v3 ii wr => ∃ k : Nat, ii = .int .i64 (k : Int) ∧ k ≤ R.length ∧ OwnW wr w.heap.size wr.heap.size 81 17 v3 (raN R x k) ∧ Below w.heap.size w wr) (fun _ ii _ => R.length - (intOf ii).toNat)
  case atStart => exact ⟨0, rfl, Nat.zero_le _, OwnW.nil w _ _ _, Below.refl _ _⟩
  case round =>
    obtain ⟨k, rfl, hk, hO, hbel⟩ := hrel
    have HO := Lib.hid hO
    clear hO
    by_cases hlt : k < R.length
    · have hlt' : (k : Int) < (R.length : Int) := by omega
      have hge := HR.out R[k] (List.getElem_mem hlt)
      have HRS := Lib.hid (RmS.all HR.out hx.1 (by omega) k (by omega))
      have HNX := Lib.hid (raN_succ R x k hlt)
      have hHr := H.out.below (hbel.mono H.out.le)
      obtain ⟨gV, c', hvv, hlo2, hhi2, hrange, -⟩ := hHr.range (k := k) hlt
      injection hvv with hvv hvn hvc
      subst hvv
      clear hvn hvc hHr
      obtain ⟨T, hTe⟩ : ∃ T, R[k] = T := ⟨_, rfl⟩
      rw [hTe] at hge hrange HNX
      have hT17 := hge.len
      have hR0 := hrange 0 T (by omega) (fun j hj => by rw [Nat.zero_add])
      rw [Nat.add_zero] at hR0
      have hiL : (Try.prog.info? 81).map (·.size) = some T.length := by rw [hT17]; exact T_tal
      have hiG : (Try.prog.info? 81).map (·.size) = some (arr T).size := by rw [arr_size, hT17]; exact T_tal
      have hsG : (arr T).size = (#[.int .i64 0, .int .i64 0, .int .i64 0, .int .i64 0, .int .i64 0, .int .i64 0, .int .i64 0, .int .i64 0, .int .i64 0, .int .i64 0, .int .i64 0, .int .i64 0, .int .i64 0, .int .i64 0, .int .i64 0, .int .i64 0, .int .i64 0] : Array Value).size := by rw [arr_size, hT17]; rfl
      have HGE := Lib.hid hge
      have hzr := hbel.size
      clear hrange hge hTe
      go_wp2_with (first
        | (refine wpList_load_part rfl 81 (.tmp 14) rfl gV (k * 17) rfl T _ hR0 Try.underlying81 rfl hiL ?_)
        | (refine wpList_store_row rfl 81 (.tmp 7) (.tmp 15) rfl wr.heap.size rfl (arr T) rfl 81 _ (Blk.new wr _ _) hiG hsG (arr_one _) ?_; have hb5 := (Blk.new wr 81 #[.int .i64 0, .int .i64 0, .int .i64 0, .int .i64 0, .int .i64 0, .int .i64 0, .int .i64 0, .int .i64 0, .int .i64 0, .int .i64 0, .int .i64 0, .int .i64 0, .int .i64 0, .int .i64 0, .int .i64 0, .int .i64 0, .int .i64 0]).row (vs := arr T); have hA5 : Below w.heap.size w ((wr.alloc (.cells #[.int .i64 0, .int .i64 0, .int .i64 0, .int .i64 0, .int .i64 0, .int .i64 0, .int .i64 0, .int .i64 0, .int .i64 0, .int .i64 0, .int .i64 0, .int .i64 0, .int .i64 0, .int .i64 0, .int .i64 0, .int .i64 0, .int .i64 0] 81)).setRow wr.heap.size (arr T)) := below_setRow' (hbel.alloc hzr _) hzr _; have hO5 : OwnW ((wr.alloc (.cells #[.int .i64 0, .int .i64 0, .int .i64 0, .int .i64 0, .int .i64 0, .int .i64 0, .int .i64 0, .int .i64 0, .int .i64 0, .int .i64 0, .int .i64 0, .int .i64 0, .int .i64 0, .int .i64 0, .int .i64 0, .int .i64 0, .int .i64 0] 81)).setRow wr.heap.size (arr T)) w.heap.size wr.heap.size 81 17 u5 (raN R x k) := HO.out.below (below_setRow' ((Below.refl _ _).alloc (Nat.le_refl _) _) (Nat.le_refl _) _); obtain ⟨w5, hw5⟩ : ∃ w5, (wr.alloc (.cells #[.int .i64 0, .int .i64 0, .int .i64 0, .int .i64 0, .int .i64 0, .int .i64 0, .int .i64 0, .int .i64 0, .int .i64 0, .int .i64 0, .int .i64 0, .int .i64 0, .int .i64 0, .int .i64 0, .int .i64 0, .int .i64 0, .int .i64 0] 81)).setRow wr.heap.size (arr T) = w5 := ⟨_, rfl⟩; rw [hw5] at hb5 hA5 hO5; (try rw [hw5]); clear hw5))
      obtain ⟨b5, hbe5⟩ : ∃ b, wr.heap.size = b := ⟨_, rfl⟩
      rw [hbe5] at hb5 hO5
      try rw [hbe5]
      have hz5 := hb5.lt
      have HBW : Hid (w.heap.size ≤ b5) := Lib.hid (by omega)
      have hO6 := hO5.more
      have HLT5 := Lib.hid hO5.lt
      have HO6 := Lib.hid hO6
      clear hO5 hO6 hbe5 hR0
      go_loopw [5, 8] (fun v3 ii wq => ∃ r : Nat, ii = .int .i64 (r : Int) ∧ x ≤ r ∧ r ≤ 17 ∧ OwnW wq w.heap.size wq.heap.size 81 17 v3 (raRow (raN R x k) T x (r - x)) ∧ Blk wq b5 81 (arr T) ∧ Hid (∀ g, v3.ownBlock = some g → g < b5 ∨ b5 < g) ∧ Below w.heap.size w wq ∧ b5 < wq.heap.size) (fun _ ii _ => 17 - (intOf ii).toNat)
      case atStart => exact ⟨x, rfl, Nat.le_refl _, by omega, by rw [Nat.sub_self]; exact HO6.out, hb5, Lib.hid (fun g hg => .inl (HLT5.out g hg)), hA5, by omega⟩
      case round =>
        obtain ⟨r, rfl, hxr, hr17, hOq, hbq5, hap, hAq, hzq⟩ := hrel
        obtain ⟨wo, rfl⟩ : ∃ wx : World, wx = wr := ⟨_, rfl⟩
        have HOQ := Lib.hid hOq
        clear hOq
        by_cases hrl : r ≤ 16
        · have hrl' : (r : Int) ≤ 16 := by omega
          have hr17' : r < 17 := by omega
          have HST : Hid (raRow (raN R x k) T x (r + 1 - x) = raStep (raRow (raN R x k) T x (r - x)) T r x) := Lib.hid (by
            rw [show r + 1 - x = (r - x) + 1 from by omega, raRow_succ, show x + (r - x) = r from by omega])
          have HRA := Lib.hid (HRS.out.row HGE.out hx.1 (r - x) (by omega))
          obtain ⟨A, hA⟩ : ∃ A, raRow (raN R x k) T x (r - x) = A := ⟨_, rfl⟩
          rw [hA] at HST HRA HOQ
          have hyb := HGE.out.bd hr17'
          obtain ⟨y, hy⟩ : ∃ y, T.getD r 0 = y := ⟨_, rfl⟩
          rw [hy] at hyb
          have hcell : wo.cell? ⟨b5, r, none⟩ = some (.int .i64 y) := by rw [hbq5.cell r, arr_getD _ r (by omega), hy]
          by_cases hy0 : y = 0
          · subst hy0
            have HS2 : Hid (raStep A T r x = A) := Lib.hid (by unfold raStep; rw [if_pos hy])
            clear hy hA
            go_wp2_with fail
            go_roundw
            case rel => exact ⟨r + 1, by go_num, by omega, by omega, by rw [HST.out, HS2.out]; exact HOQ.out, hbq5, hap, hAq, hzq⟩
            case measure => simp [intOf] <;> omega
          · have hy0' : decide (y = 0) = false := decide_eq_false hy0
            obtain ⟨d, hd⟩ : ∃ d : Nat, r - x = d := ⟨_, rfl⟩
            have hd17 : d < 17 := by omega
            have hwd : IntKind.i64.wrap ((r : Int) - (x : Int)) = (d : Int) := (IntWalk.i64_in _ (by omega)).trans (by omega)
            have hzv : (T.set r (y - 1)).getD d 0 = T.getD d 0 := by rw [List.getD_eq_getElem?_getD, List.getElem?_set_ne (by omega), ← List.getD_eq_getElem?_getD]
            have hzb := HGE.out.bd hd17
            obtain ⟨z, hz⟩ : ∃ z, T.getD d 0 = z := ⟨_, rfl⟩
            rw [hz] at hzb hzv
            have HMV : Hid ((T.set r (y - 1)).set d (z + 1) = mvT T r x) := Lib.hid (by unfold mvT; rw [hy, hd, hzv])
            have hws1 : IntKind.i64.wrap (y - 1) = y - 1 := IntWalk.i64_in _ (by omega)
            have hws2 : IntKind.i64.wrap (z + 1) = z + 1 := IntWalk.i64_in _ (by omega)
            obtain ⟨L, hLe⟩ : ∃ L, mvT T r x = L := ⟨_, rfl⟩
            rw [hLe] at HMV
            have hL17 : L.length = 17 := by rw [← HMV.out, List.length_set, List.length_set]; exact hT17
            obtain ⟨b8, hb8e⟩ : ∃ b, wo.heap.size = b := ⟨_, rfl⟩
            obtain ⟨w8, hw8⟩ : ∃ w8, (wo.alloc (.cells #[.int .i64 0, .int .i64 0, .int .i64 0, .int .i64 0, .int .i64 0, .int .i64 0, .int .i64 0, .int .i64 0, .int .i64 0, .int .i64 0, .int .i64 0, .int .i64 0, .int .i64 0, .int .i64 0, .int .i64 0, .int .i64 0, .int .i64 0] 81)).setRow b8 (arr T) = w8 := ⟨_, rfl⟩
            have hNew : Blk (wo.alloc (.cells #[.int .i64 0, .int .i64 0, .int .i64 0, .int .i64 0, .int .i64 0, .int .i64 0, .int .i64 0, .int .i64 0, .int .i64 0, .int .i64 0, .int .i64 0, .int .i64 0, .int .i64 0, .int .i64 0, .int .i64 0, .int .i64 0, .int .i64 0] 81)) b8 81 #[.int .i64 0, .int .i64 0, .int .i64 0, .int .i64 0, .int .i64 0, .int .i64 0, .int .i64 0, .int .i64 0, .int .i64 0, .int .i64 0, .int .i64 0, .int .i64 0, .int .i64 0, .int .i64 0, .int .i64 0, .int .i64 0, .int .i64 0] := by rw [← hb8e]; exact Blk.new wo _ _
            have hB8 : Blk w8 b8 81 (arr T) := by rw [← hw8, ← hb8e]; exact (Blk.new wo _ _).row
            have hbel8 : Below b8 wo w8 := by rw [← hw8, ← hb8e]; exact below_setRow' ((Below.refl _ _).alloc (Nat.le_refl _) _) (Nat.le_refl _) _
            have c8 : w8.cell? ⟨b8, r, none⟩ = some (.int .i64 y) := by rw [hB8.cell r, arr_getD _ r (by omega), hy]
            have f8 := hB8.free r
            have hB9 : Blk (w8.setCell ⟨b8, r, none⟩ (.int .i64 (y - 1))) b8 81 (arr (T.set r (y - 1))) := by
              have h1 := hB8.set r (.int .i64 (y - 1))
              rw [arr_set] at h1
              exact h1
            have c9 : (w8.setCell ⟨b8, r, none⟩ (.int .i64 (y - 1))).cell? ⟨b8, d, none⟩ = some (.int .i64 z) := by rw [hB9.cell d, arr_getD _ d (by rw [List.length_set]; omega), hzv]
            have f9 := hB9.free d
            have hB10 : Blk ((w8.setCell ⟨b8, r, none⟩ (.int .i64 (y - 1))).setCell ⟨b8, d, none⟩ (.int .i64 (z + 1))) b8 81 (arr L) := by
              have h1 := hB9.set d (.int .i64 (z + 1))
              rw [arr_set, HMV.out] at h1
              exact h1
            have hbel9 : Below b8 wo ((w8.setCell ⟨b8, r, none⟩ (.int .i64 (y - 1))).setCell ⟨b8, d, none⟩ (.int .i64 (z + 1))) := (hbel8.setCell (Nat.le_refl _) _).setCell (Nat.le_refl _) _
            have hOo : OwnW wo w.heap.size b8 81 17 u5 A := by rw [← hb8e]; exact HOQ.out
            have HO9 := Lib.hid (hOo.below hbel9)
            have hz8 : b8 < ((w8.setCell ⟨b8, r, none⟩ (.int .i64 (y - 1))).setCell ⟨b8, d, none⟩ (.int .i64 (z + 1))).heap.size := hB10.lt
            have hb59 := hbq5.below hbel9 (by omega)
            have hwb8 : w.heap.size ≤ b8 := by have := HBW.out; omega
            have hA9 := hAq.trans (hbel9.mono hwb8)
            obtain ⟨w10, hw10⟩ : ∃ w10, (w8.setCell ⟨b8, r, none⟩ (.int .i64 (y - 1))).setCell ⟨b8, d, none⟩ (.int .i64 (z + 1)) = w10 := ⟨_, rfl⟩
            rw [hw10] at hB10 HO9 hz8 hb59 hA9
            have hiLT : (Try.prog.info? 81).map (·.size) = some (arr L).size := by rw [arr_size, hL17]; exact T_tal
            have hlA := rooms_le HRA.out.1 HRA.out.2
            have HA17 : Hid (∀ S ∈ A, S.length = 17) := Lib.hid (fun S hS => (HRA.out.2 S hS).len)
            have HBB : Hid (w.heap.size ≤ b5 ∧ b5 < b8) := Lib.hid ⟨HBW.out, by omega⟩
            have hb58 : b5 < b8 := by omega
            have HSU : Hid (raStep A T r x = if A.contains L then A else A ++ [L]) := Lib.hid (by unfold raStep; rw [hy, if_neg hy0, hLe])
            have HW10 := Lib.hid hw10
            clear hw10 hy hA hd hzv hz hLe hOo hbel8 hbel9
            by_cases hc : A.contains L = true
            · have HC := Lib.hid hc
              have HS2 : Hid (raStep A T r x = A) := Lib.hid (by rw [HSU.out, if_pos hc])
              clear hc
              go_wp2_with (first
                | (refine wpList_load_row rfl 81 (.tmp 7) rfl b5 rfl 81 (arr T) (0, 0) _ hbq5 Try.underlying81 rfl hiG ?_)
                | (refine wpList_store_row rfl 81 (.tmp 9) (.tmp 25) rfl b8 rfl (arr T) rfl 81 _ hNew hiG hsG (arr_one _) ?_; (try rw [hb8e]); (try rw [hw8]))
                | ((try rw [HW10.out]); refine wpList_load_row rfl 81 (.tmp 9) rfl b8 rfl 81 (arr L) (0, 0) _ hB10 Try.underlying81 rfl hiLT ?_)
                | (go_at_call 122; refine (slContains_any w.heap.size b8 _ A L HA17.out hL17 (by omega) _ HO9.out).mono ?_; rintro e w2 ⟨rfl, hb2⟩; rw [HC.out]))
              have hzz2 := hb2.size
              have hb52 := hb59.below hb2 (by omega)
              have hA2 := hA9.trans (hb2.mono (by omega))
              have HO2 := Lib.hid ((HO9.out.below (hb2.mono (by omega))).more)
              go_roundw
              case rel => exact ⟨r + 1, by go_num, by omega, by omega, by rw [HST.out, HS2.out]; exact HO2.out, hb52, hap, hA2, by omega⟩
              case measure => simp [intOf] <;> omega
            · have hc' : A.contains L = false := by simpa using hc
              have HC := Lib.hid hc'
              have HS2 : Hid (raStep A T r x = A ++ [L]) := Lib.hid (by rw [HSU.out, if_neg hc])
              clear hc hc'
              obtain ⟨a5, c5, rfl⟩ := HO9.out.form
              have HFOLD := Lib.hid (fold17 _ hL17)
              have hsz17 : (arr L).size = 17 := by rw [arr_size, hL17]
              have HLL := Lib.hid hL17
              go_wp2_with (first
                | (refine wpList_load_row rfl 81 (.tmp 7) rfl b5 rfl 81 (arr T) (0, 0) _ hbq5 Try.underlying81 rfl hiG ?_)
                | (refine wpList_store_row rfl 81 (.tmp 9) (.tmp 25) rfl b8 rfl (arr T) rfl 81 _ hNew hiG hsG (arr_one _) ?_; (try rw [hb8e]); (try rw [hw8]))
                | ((try rw [HW10.out]); refine wpList_load_row rfl 81 (.tmp 9) rfl b8 rfl 81 (arr L) (0, 0) _ hB10 Try.underlying81 rfl hiLT ?_)
                | (go_at_call 122; refine (slContains_any w.heap.size b8 _ A L HA17.out hL17 (by omega) _ HO9.out).mono ?_; rintro e w2 ⟨rfl, hb2⟩; rw [HC.out]; have hzz2 := hb2.size; have hB2 := hB10.below hb2 hz8; have HO2 := Lib.hid ((HO9.out.below (hb2.mono (by omega))).more))
                | (refine wpList_load_row rfl 81 (.tmp 9) rfl b8 rfl 81 (arr L) (0, 0) _ hB2 Try.underlying81 rfl hiLT ?_)
                | (at_builtin; (try rw [HFOLD.out]); refine wpList_append_w rfl (.tmp 42) (.tmp 44) 96 rfl w.heap.size _ 81 i0 _ 17 136 Try.underlying96 hi0 hz0 hz1 hz2 (by simp [Value.cells, arr, ints]) (by omega) _ A rfl (HO2.out.alloc _) (by simp <;> omega) w2.heap.size _ L rfl HLL.out ?hrg (by omega) (by omega) ?_; rotate_left; intro v' w3 ho3 hg3 hat3))
              · have hb52 := hb59.below hb2 (by omega)
                have hA2 := hA9.trans (hb2.mono (by omega))
                have hb52' := hb52.alloc (.cells (arr L) 81)
                have hA2' : Below w.heap.size w (w2.alloc (.cells (arr L) 81)) := hA2.alloc (by omega) _
                have HAP := hap
                go_roundw
                case rel => exact ⟨r + 1, by go_num, by omega, by omega, by rw [HST.out, HS2.out]; exact ho3, hb52'.grown hg3 (fun e => by
                    rcases HAP.out b5 e.symm with h | h <;> omega), Lib.hid (fun g hg => by
                    rcases hat3 with h | h
                    · rw [h] at hg; exact HAP.out g hg
                    · rw [h] at hg; injection hg with hg; simp at hg; omega), hA2'.grown hg3 (by simp; omega) (fun g hg => HO2.out.base g hg), by have := hg3.size; simp at this; omega⟩
                case measure => simp [intOf] <;> omega
              · exact rangeAt_blk (Blk.new w2 81 (arr L)) 0 (fun j hj => by rw [Nat.zero_add])
        · obtain rfl : r = 17 := by omega
          clear hrl
          go_wp2_with fail
          go_roundw
          case rel => exact ⟨k + 1, by go_num, by omega, by rw [HNX.out]; exact HOQ.out, hAq⟩
          case measure => simp [intOf] <;> omega
    · obtain rfl : k = R.length := by omega
      clear hlt
      go_wp2_with fail
      go_ret
      exact ⟨_, rfl, HO.out, hbel⟩
end Go.Proofs.Ythafbdpeignccaa
namespace Go.Proofs.Ythafbdpeignccaa
open NP
set_option linter.unusedVariables false
/-- what is left of the rooms after k parts -/
def rms (Q P : List Int) (k : Nat) : List (List Int) := (P.take k).foldl (fun R x => raN R x.toNat R.length) [tlyL Q]
theorem rms_succ (Q P : List Int) (k : Nat) (h : k < P.length) : rms Q P (k + 1) = raN (rms Q P k) P[k].toNat (rms Q P k).length := by
  unfold rms; rw [List.take_succ_eq_append_getElem h, List.foldl_append]; rfl
theorem valid_each {P : List Int} (h : valid P = true) : ∀ x ∈ P, 1 ≤ x ∧ x ≤ 16 := fun x hx => by
  obtain ⟨i, hi, rfl⟩ := List.getElem_of_mem hx
  have h1 := preS_of_valid h i hi hi
  have h2 : P.getD i 0 = P[i] := by simp [List.getD_eq_getElem?_getD, hi]
  omega
theorem rms_Rm {P Q : List Int} (hp : valid P = true) (hq : valid Q = true) : ∀ k, k ≤ P.length → (∀ T ∈ rms Q P k, Rm Q.length T) ∧ (rms Q P k).length ≤ 1000
  | 0, _ => by
    refine ⟨fun T hT => ?_, by simp [rms]⟩
    have e : T = tlyL Q := by simpa [rms] using hT
    exact ⟨Q, e, fun y hy => by have := valid_each hq y hy; omega, rfl, (valid_bd hq).2.1⟩
  | k + 1, hk => by
    have ih := rms_Rm hp hq k (by omega)
    have hx := valid_each hp _ (List.getElem_mem (show k < P.length by omega))
    rw [rms_succ Q P k (by omega)]
    have h1 := RmS.all ih.1 (x := P[k].toNat) (by omega) (by omega) (rms Q P k).length (Nat.le_refl _)
    exact ⟨h1.2, by have := rooms_le h1.1 h1.2; omega⟩
theorem rms_any {P Q : List Int} (hp : valid P = true) : ∀ k, k ≤ P.length → (rms Q P k).any (pathT (P.drop k)) = pathT P (tlyL Q)
  | 0, _ => by simp [rms]
  | k + 1, hk => by
    have hx := valid_each hp _ (List.getElem_mem (show k < P.length by omega))
    rw [rms_succ Q P k (by omega), raN_path (rms Q P k) P[k] (by omega), ← rms_any hp k (by omega), List.drop_eq_getElem_cons (show k < P.length by omega)]
def rfF (P Q : List Int) : Bool := valid P && valid Q && decide (sumL P = sumL Q) && fitsF P Q
theorem rms_end {P Q : List Int} (hp : valid P = true) (hq : valid Q = true) (hs : sumL P = sumL Q) : decide (0 < (rms Q P P.length).length) = fitsF P Q := by
  rw [fits_path P Q (fun x hx => (valid_each hp x hx).1) (fun y hy => by have := valid_each hq y hy; omega) hs.symm, ← rms_any hp P.length (Nat.le_refl _), List.drop_length]
  cases rms Q P P.length with
  | nil => rfl
  | cons a r => simp [pathT]
end Go.Proofs.Ythafbdpeignccaa
namespace Go.Proofs.Ythafbdpeignccaa
open Go.RowKit NP
set_option maxRecDepth 8000
set_option linter.unusedVariables false
set_option linter.unusedSimpArgs false
theorem Blk.range {w : World} {g : Nat} {t : TypeId} {vs : List Value} (h : Blk w g t vs.toArray) : w.rangeAt g 0 vs := fun j v hv => by
  rw [Nat.zero_add, h.cell j]; simpa using hv
theorem range_below {w w' : World} {b o : Nat} {cs : List Value} (h : w.rangeAt b o cs) (hb : Below w.heap.size w w') : w'.rangeAt b o cs := fun j v hv => by
  have := h j v hv
  exact (hb.cell (p := ⟨b, o + j, none⟩) (World.block_lt_of_cell? w _ this)).trans this
theorem keep_cr {w0 w w' : World} {g : Nat} {x : Value} {cs : List Value} (h : w.cell? ⟨g, 0, none⟩ = some x ∧ w.rangeAt g 0 cs ∧ Below w0.heap.size w0 w) (hb : Below w.heap.size w w') :
    w'.cell? ⟨g, 0, none⟩ = some x ∧ w'.rangeAt g 0 cs ∧ Below w0.heap.size w0 w' :=
  ⟨(hb.cell (p := ⟨g, 0, none⟩) (World.block_lt_of_cell? w _ h.1)).trans h.1, range_below h.2.1 hb, h.2.2.trans (hb.mono h.2.2.size)⟩
theorem cntD_le (D : List Int) : cntD D ≤ 16 := (ff_spec _ 16).1
theorem cntD_pad {M : List Int} (hM : valid M = true) : cntD (pad M) = M.length := by
  have hbd := valid_bd hM
  have hlen : M.length ≤ 16 := hbd.2.2.2
  unfold cntD
  refine ff_eq (fun j hj => ?_) hlen ?_
  · have h1 := preS_of_valid hM j hj hj
    rw [List.getD_eq_getElem?_getD, List.getElem?_eq_getElem (by rw [pad_len hlen]; omega), Option.getD_some, pad_get hlen hj]
    simp; omega
  · rcases Nat.lt_or_ge M.length 16 with h | h
    · right
      rw [List.getD_eq_getElem?_getD, List.getElem?_eq_getElem (by rw [pad_len hlen]; omega), Option.getD_some, pad_get0 hlen (Nat.le_refl _) h]
      simp
    · left; omega
theorem getD0 (L : List Int) : L.getD 0 0 = L.headD 0 := by cases L <;> rfl
theorem cntD_zeros : cntD (List.replicate 16 0) = 0 := by decide
theorem dg_bd (L : List Int) : ∀ k (h : k < (dg L).length), 0 ≤ (dg L)[k] ∧ (dg L)[k] ≤ 16 := by
  cases hv : valid L with
  | true => rw [dg_yes hv]; exact pad_nonneg hv
  | false => rw [dg_no hv]; intro k h; rw [List.getElem_replicate]; omega
theorem rnk_dg (L : List Int) : (dg L).getD 0 0 - cntD (dg L) = rnk L := by
  cases hv : valid L with
  | true => rw [dg_yes hv, cntD_pad hv, pad_getD (valid_bd hv).2.2.2, getD0, rnk_yes hv]
  | false => rw [dg_no hv, cntD_zeros, rnk_no hv]; rfl
theorem info_diag (D : List Int) (hD : D.length = 16) : (Try.prog.info? 59).map (·.size) = some (ints D).length := by rw [List.length_map, hD]; exact T_info35




end Go.Proofs.Ythafbdpeignccaa
