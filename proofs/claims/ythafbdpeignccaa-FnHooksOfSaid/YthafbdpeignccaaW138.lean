/-
  Walks of the program: the level below.
-/
import Derived.Test.YthafbdpeignccaaW137
import Derived.Test.YthafbdpeignccaaW6
namespace Go.Proofs.Ythafbdpeignccaa
open Go.RowKit NP
set_option maxRecDepth 8000
set_option linter.unusedVariables false
set_option linter.unusedSimpArgs false
theorem wpList_load_part {P : Program} {w : World} {ops : Array Oper} {rest : List Oper} {oo : Oper} {a : Act} {Q : Exit → Act → World → Prop} (hgd : oo.guard = none) (ty : TypeId) (x : Operand) (ho : oo.op = .load ty x)
    (b o : Nat) (hx : a.eval x = .pointer (some ⟨b, o, none⟩)) (M : List Int) (d : TypeDesc) (hc : w.rangeAt b o (ints M)) (hu : P.underlying ty = some d) (hd : d.isRow = true) (hi : (P.info? ty).map (·.size) = some M.length)
    (h : wpList P ops Q rest (a.put oo.dst (.agg (arr M))) w) : wpList P ops Q (oo :: rest) a w :=
  wpList_plain hgd fun _ hK => by
    unfold Oper.wp
    rw [exec_loadR ty x ho ⟨b, o, none⟩ hx (run_load_part w b o ty M d hc hu hd hi)]
    exact hK _ _ h
theorem wpList_execG {P : Program} {w : World} {ops : Array Oper} {rest : List Oper} {o : Oper} {a : Act} {Q : Exit → Act → World → Prop} (hgd : o.guard = none) {v : Value} (h : (execOp a.eval o).run P w = .ok (.value v) w)
    (hk : wpList P ops Q rest (a.put o.dst v) w) : wpList P ops Q (o :: rest) a w :=
  wpList_plain hgd fun _ hK => by
    unfold Oper.wp
    rw [h]
    exact hK _ _ hk
theorem T_buildG0 (e0 e1 e2 e3 e4 e5 e6 e7 e8 e9 e10 e11 e12 e13 e14 e15 x : Int) (w : World) : (Instr.build 92 #[(0, .agg (arr [e0, e1, e2, e3, e4, e5, e6, e7, e8, e9, e10, e11, e12, e13, e14, e15])), (1, .int .i64 x)]).run Try.prog w = .ok (.agg (arr ([e0, e1, e2, e3, e4, e5, e6, e7, e8, e9, e10, e11, e12, e13, e14, e15] ++ [x]))) w := by kernel_rfl
theorem T_buildG (D : List Int) (hD : D.length = 16) (x : Int) (w : World) : (Instr.build 92 #[(0, .agg (arr D)), (1, .int .i64 x)]).run Try.prog w = .ok (.agg (arr (D ++ [x]))) w := by
  match D, hD with
  | [e0, e1, e2, e3, e4, e5, e6, e7, e8, e9, e10, e11, e12, e13, e14, e15], _ => exact T_buildG0 e0 e1 e2 e3 e4 e5 e6 e7 e8 e9 e10 e11 e12 e13 e14 e15 x w
set_option maxRecDepth 100000 in
set_option maxHeartbeats 4000000 in
theorem levelBelow_any (m : Int) (hm : 0 ≤ m ∧ m + 1 ≤ 12) (lo hi : Nat) (v : Value) (G : List (List Int × Int)) (hG : gLv (m + 1) G) (hs : gSum G ≤ 10000) (w : World) (h : OwnW w lo hi 92 17 v (gRows G)) (hlo : lo ≤ w.heap.size) :
    Calls Try.prog 108 #[v] w fun e w' => ∃ v', e = .returned v' ∧ OwnW w' w.heap.size w'.heap.size 92 17 v' (gRows (lvN G G.length)) ∧ Below w.heap.size w w' := by
  obtain ⟨aV, cV, rfl⟩ := h.form
  rw [gRows_len] at h ⊢
  have H := Lib.hid h
  have HG := Lib.hid hG
  have hiGr : ∀ g : List Int × Int, valid g.1 = true → (Try.prog.info? 92).map (·.size) = some (gRow g).length := fun g hg => by rw [gRow_len hg]; exact T_gr
  have HIG := Lib.hid hiGr
  have hGl : G.length ≤ 10000 := by have := (gLv_bd (by omega) hG).1; omega
  clear h hG hiGr
  go_enter Try.func108, Try.ntmps108
  go_wp2_with fail
  go_loopw [3, 11] (fun v3 ii wr => ∃ k : Nat, ii = .int .i64 (k : Int) ∧ k ≤ G.length ∧ OwnW wr w.heap.size wr.heap.size 92 17 v3 (gRows (lvN G k)) ∧ Below w.heap.size w wr) (fun _ ii _ => G.length - (intOf ii).toNat)
  case atStart => exact ⟨0, rfl, Nat.zero_le _, OwnW.nil w _ _ _, Below.refl _ _⟩
  case round =>
    obtain ⟨k, rfl, hk, hO, hbel⟩ := hrel
    have HO := Lib.hid hO
    clear hO
    by_cases hlt : k < G.length
    · have hlt' : (k : Int) < (G.length : Int) := by omega
      have hge := HG.out.1 G[k] (List.getElem_mem hlt)
      have hgb := (gLv_bd (show m + 1 ≤ 12 by omega) HG.out).2 G[k] (List.getElem_mem hlt)
      have hHr := H.out.below (hbel.mono H.out.le)
      obtain ⟨gV, c', hvv, hlo2, hhi2, hrange, -⟩ := hHr.range (k := k) (by rw [gRows_len]; exact hlt)
      injection hvv with hvv hvn hvc
      subst hvv
      clear hvn hvc hHr
      have hrow := gRows_at hlt
      rw [hrow] at hrange
      have hlok := lvN_ok ⟨hm.1, hm.2⟩ HG.out k (by omega)
      have hlok1 := lvN_ok ⟨hm.1, hm.2⟩ HG.out (k + 1) (by omega)
      have hnext := lvN_succ G k hlt
      have htk := gSum_take (show m + 1 ≤ 12 by omega) HG.out (k + 1)
      obtain ⟨⟨S, x⟩, hSx⟩ : ∃ g, G[k] = g := ⟨_, rfl⟩
      rw [hSx] at hge hgb hrange hnext
      have hR0 := hrange 0 (gRow (S, x)) (by rw [gRow_len hge.1]; omega) (fun j hj => by rw [Nat.zero_add])
      rw [Nat.add_zero] at hR0
      have hiL := HIG.out (S, x) hge.1
      have hiG : (Try.prog.info? 92).map (·.size) = some (arr (gRow (S, x))).size := by rw [arr_size, gRow_len hge.1]; exact T_gr
      have hsG : (arr (gRow (S, x))).size = (#[.int .i64 0, .int .i64 0, .int .i64 0, .int .i64 0, .int .i64 0, .int .i64 0, .int .i64 0, .int .i64 0, .int .i64 0, .int .i64 0, .int .i64 0, .int .i64 0, .int .i64 0, .int .i64 0, .int .i64 0, .int .i64 0, .int .i64 0] : Array Value).size := by rw [arr_size, gRow_len hge.1]; rfl
      have hl16 := (valid_bd hge.1).2.2.2
      have hpl := pad_len hl16
      have hi16 : (Try.prog.info? 59).map (·.size) = some (pad S).length := by rw [hpl]; exact T_info35
      have HLV : Hid (gLv m (lvN G k) ∧ lvN G (k + 1) = lvK S x (lvN G k) (crn S).length ∧ gSum (lvN G (k + 1)) ≤ 10000) := Lib.hid ⟨hlok.1, hnext, by rw [hlok1.2]; omega⟩
      have HGE : Hid (valid S = true ∧ sumL S = m + 1 ∧ 1 ≤ x ∧ x ≤ 10000) := Lib.hid ⟨hge.1, hge.2.1, hge.2.2, by simp only at hgb; omega⟩
      have hzr := hbel.size
      clear hrange hrow hge hgb hlok hlok1 hnext htk hSx
      go_wp2_with (first
        | (refine wpList_load_part rfl 92 (.tmp 13) rfl gV (k * 17) rfl (gRow (S, x)) _ hR0 Try.underlying92 rfl hiL ?_)
        | (refine wpList_store_row rfl 92 (.tmp 5) (.tmp 14) rfl wr.heap.size rfl (arr (gRow (S, x))) rfl 92 _ (Blk.new wr _ _) hiG hsG (arr_one _) ?_; have hb5 := (Blk.new wr 92 #[.int .i64 0, .int .i64 0, .int .i64 0, .int .i64 0, .int .i64 0, .int .i64 0, .int .i64 0, .int .i64 0, .int .i64 0, .int .i64 0, .int .i64 0, .int .i64 0, .int .i64 0, .int .i64 0, .int .i64 0, .int .i64 0, .int .i64 0]).row (vs := arr (gRow (S, x))); have hA5 : Below w.heap.size w ((wr.alloc (.cells #[.int .i64 0, .int .i64 0, .int .i64 0, .int .i64 0, .int .i64 0, .int .i64 0, .int .i64 0, .int .i64 0, .int .i64 0, .int .i64 0, .int .i64 0, .int .i64 0, .int .i64 0, .int .i64 0, .int .i64 0, .int .i64 0, .int .i64 0] 92)).setRow wr.heap.size (arr (gRow (S, x)))) := below_setRow' (hbel.alloc hzr _) hzr _; have hO5 : OwnW ((wr.alloc (.cells #[.int .i64 0, .int .i64 0, .int .i64 0, .int .i64 0, .int .i64 0, .int .i64 0, .int .i64 0, .int .i64 0, .int .i64 0, .int .i64 0, .int .i64 0, .int .i64 0, .int .i64 0, .int .i64 0, .int .i64 0, .int .i64 0, .int .i64 0] 92)).setRow wr.heap.size (arr (gRow (S, x)))) w.heap.size wr.heap.size 92 17 u3 (gRows (lvN G k)) := HO.out.below (below_setRow' ((Below.refl _ _).alloc (Nat.le_refl _) _) (Nat.le_refl _) _); obtain ⟨w5, hw5⟩ : ∃ w5, (wr.alloc (.cells #[.int .i64 0, .int .i64 0, .int .i64 0, .int .i64 0, .int .i64 0, .int .i64 0, .int .i64 0, .int .i64 0, .int .i64 0, .int .i64 0, .int .i64 0, .int .i64 0, .int .i64 0, .int .i64 0, .int .i64 0, .int .i64 0, .int .i64 0] 92)).setRow wr.heap.size (arr (gRow (S, x))) = w5 := ⟨_, rfl⟩; rw [hw5] at hb5 hA5 hO5; (try rw [hw5]); clear hw5; have hR5 : w5.rangeAt wr.heap.size 0 (ints (pad S)) := rangeAt_blk hb5 0 (fun j hj => gRow_first (g := (S, x)) HGE.out.1 hj))
        | (refine wpList_load_part rfl 59 (.tmp 15) rfl wr.heap.size 0 rfl (pad S) _ hR5 Try.underlying59 rfl hi16 ?_)
        | (go_at_call 74; refine (dcorners_any (pad S) hpl _).mono ?_; rintro e w6 ⟨aC, cC, rfl, hoC, hb6⟩; rw [crn_pad HGE.out.1] at hoC ⊢))
      obtain ⟨b5, hbe5⟩ : ∃ b, wr.heap.size = b := ⟨_, rfl⟩
      rw [hbe5] at hb5 hR5 hO5
      try rw [hbe5]
      have hz5 := hb5.lt
      have hz6 := hb6.size
      have hA6 := hA5.trans (hb6.mono hA5.size)
      have hw5z := hA5.size
      obtain ⟨z5, hz5e⟩ : ∃ z, w5.heap.size = z := ⟨_, rfl⟩
      obtain ⟨z6, hz6e⟩ : ∃ z, w6.heap.size = z := ⟨_, rfl⟩
      rw [hz5e] at hoC hz5 hb6 hz6 hw5z
      rw [hz6e] at hoC hz6
      have hbz : w.heap.size ≤ b5 := by rw [← hbe5]; exact hzr
      have HKJ : Hid (∀ j, j ≤ (crn S).length → gLv m (lvK S x (lvN G k) j) ∧ gSum (lvK S x (lvN G k) j) ≤ 10000) := Lib.hid (fun j hj => ⟨(lvK_ok HGE.out.1 HGE.out.2.1 HGE.out.2.2.1 HLV.out.1 j hj).1, by
        have h1 := lvK_le (by omega) HGE.out.1 HGE.out.2.1 HGE.out.2.2.1 HLV.out.1 hj
        have h2 := HLV.out.2.2
        rw [HLV.out.2.1] at h2
        omega⟩)
      have hO6 := (hO5.below (hb6.mono (by omega))).more
      have hb56 := hb5.below hb6 (by omega)
      have hlt5 := hO5.lt
      have HLT5 := Lib.hid hlt5
      have HO6 := Lib.hid hO6
      have hn16 : (crn S).length ≤ 16 := by have := fl_len (isC S) S.length; unfold crn crnTo; unfold fl at this; omega
      clear hR5 hO5 hb5 hb6 hA5 hlt5 hO6 hbe5 hR0
      go_loopw [3, 19] (fun v3 ii wq => ∃ j : Nat, ii = .int .i64 (j : Int) ∧ j ≤ (crn S).length ∧ OwnW wq w.heap.size wq.heap.size 92 17 v3 (gRows (lvK S x (lvN G k) j)) ∧ Blk wq b5 92 (arr (gRow (S, x))) ∧ Own wq z5 z6 3 (.slice aC (crn S).length cC) (ints (crn S)) ∧ Hid (∀ g, v3.ownBlock = some g → g < b5 ∨ z6 ≤ g) ∧ Below w.heap.size w wq ∧ z6 ≤ wq.heap.size) (fun _ ii _ => (crn S).length - (intOf ii).toNat)
      case atStart => exact ⟨0, rfl, Nat.zero_le _, by rw [show lvK S x (lvN G k) 0 = lvN G k from by simp [lvK]]; exact HO6.out, hb56, hoC, Lib.hid (fun g hg => .inl (HLT5.out g hg)), hA6, by omega⟩
      case round =>
        obtain ⟨j, rfl, hj, hOq, hbq5, hoq, hap, hAq, hzq⟩ := hrel
        obtain ⟨wo, rfl⟩ : ∃ wx : World, wx = wr := ⟨_, rfl⟩
        have HOQ := Lib.hid hOq
        clear hOq
        by_cases hjl : j < (crn S).length
        · have hjl' : (j : Int) < ((crn S).length : Int) := by omega
          obtain ⟨i, hie, hiS, hiC⟩ := crn_at hjl
          obtain ⟨gC, cC', hvC, hloC, hhiC, hcC, -⟩ := hoq.at_ (k := j) (by simpa using hjl)
          injection hvC with hvC hvn hvc
          subst hvC
          have hcell : wo.cell? ⟨gC, j, none⟩ = some (.int .i64 (i : Int)) := by rw [hcC]; simp [ints, hie]
          clear hvn hvc hcC
          have hi16' : i < 16 := by omega
          have hpg := pad_get hl16 hiS
          have hyb := preS_of_valid HGE.out.1 i hiS hiS
          have hyd : S.getD i 0 = S[i] := by simp [List.getD_eq_getElem?_getD, hiS]
          have hpless := pad_less HGE.out.1 hiS hiC
          have hvL := valid_less HGE.out.1 hiS hiC
          have hcx : wo.cell? ⟨b5, 16, none⟩ = some (.int .i64 x) := by
            rw [hbq5.cell 16]
            unfold arr ints
            rw [List.getElem?_toArray, List.getElem?_map, gRow_last (g := (S, x)) HGE.out.1]; rfl
          have hRq : wo.rangeAt b5 0 (ints (pad S)) := rangeAt_blk hbq5 0 (fun j hj => gRow_first (g := (S, x)) HGE.out.1 hj)
          have hpnn := pad_nonneg HGE.out.1 i (by rw [hpl]; omega)
          obtain ⟨y, hy⟩ : ∃ y, S[i] = y := ⟨_, rfl⟩
          rw [hyd, hy] at hpless
          rw [hpg, hy] at hpnn
          rw [hy] at hyb hpg
          have hy16 : 1 ≤ y ∧ y ≤ 16 := by omega
          have hws : IntKind.i64.wrap (y - 1) = y - 1 := IntWalk.i64_in _ (by omega)
          have HVL := Lib.hid hvL
          have hLl := pad_len (valid_bd hvL).2.2.2
          have hiLD : (Try.prog.info? 59).map (·.size) = some (arr (pad (lessL S i))).size := by rw [arr_size, hLl]; exact T_info35
          have hiPD : (Try.prog.info? 59).map (·.size) = some (arr (pad S)).size := by rw [arr_size, hpl]; exact T_info35
          have hsPD : (arr (pad S)).size = (#[.int .i64 0, .int .i64 0, .int .i64 0, .int .i64 0, .int .i64 0, .int .i64 0, .int .i64 0, .int .i64 0, .int .i64 0, .int .i64 0, .int .i64 0, .int .i64 0, .int .i64 0, .int .i64 0, .int .i64 0, .int .i64 0] : Array Value).size := by rw [arr_size, hpl]; rfl
          obtain ⟨b8, hb8e⟩ : ∃ b, wo.heap.size = b := ⟨_, rfl⟩
          obtain ⟨w8, hw8⟩ : ∃ w8, (wo.alloc (.cells #[.int .i64 0, .int .i64 0, .int .i64 0, .int .i64 0, .int .i64 0, .int .i64 0, .int .i64 0, .int .i64 0, .int .i64 0, .int .i64 0, .int .i64 0, .int .i64 0, .int .i64 0, .int .i64 0, .int .i64 0, .int .i64 0] 59)).setRow b8 (arr (pad S)) = w8 := ⟨_, rfl⟩
          have hNew : Blk (wo.alloc (.cells #[.int .i64 0, .int .i64 0, .int .i64 0, .int .i64 0, .int .i64 0, .int .i64 0, .int .i64 0, .int .i64 0, .int .i64 0, .int .i64 0, .int .i64 0, .int .i64 0, .int .i64 0, .int .i64 0, .int .i64 0, .int .i64 0] 59)) b8 59 #[.int .i64 0, .int .i64 0, .int .i64 0, .int .i64 0, .int .i64 0, .int .i64 0, .int .i64 0, .int .i64 0, .int .i64 0, .int .i64 0, .int .i64 0, .int .i64 0, .int .i64 0, .int .i64 0, .int .i64 0, .int .i64 0] := by rw [← hb8e]; exact Blk.new wo _ _
          have hB8 : Blk w8 b8 59 (arr (pad S)) := by rw [← hw8, ← hb8e]; exact (Blk.new wo _ _).row
          have hbel8 : Below b8 wo w8 := by rw [← hw8, ← hb8e]; exact below_setRow' ((Below.refl _ _).alloc (Nat.le_refl _) _) (Nat.le_refl _) _
          have c8 : w8.cell? ⟨b8, i, none⟩ = some (.int .i64 y) := by rw [hB8.cell i, arr_get _ i (by rw [hpl]; omega), hpg]
          have f8 := hB8.free i
          have hB9 : Blk (w8.setCell ⟨b8, i, none⟩ (.int .i64 (y - 1))) b8 59 (arr (pad (lessL S i))) := by
            have h1 := hB8.set i (.int .i64 (y - 1))
            rw [arr_set, hpless] at h1
            exact h1
          have hz8 := hbel8.size
          have hbel9 : Below b8 wo (w8.setCell ⟨b8, i, none⟩ (.int .i64 (y - 1))) := hbel8.setCell (Nat.le_refl _) _
          have c9 : (w8.setCell ⟨b8, i, none⟩ (.int .i64 (y - 1))).cell? ⟨b5, 16, none⟩ = some (.int .i64 x) := (hbel9.cell (p := ⟨b5, 16, none⟩) (by show b5 < b8; omega)).trans hcx
          have HO9 : Hid (OwnW (w8.setCell ⟨b8, i, none⟩ (.int .i64 (y - 1))) w.heap.size b8 92 17 u3 (gRows (lvK S x (lvN G k) j))) := Lib.hid (by have := HOQ.out; rw [hb8e] at this; exact this.below hbel9)
          obtain ⟨hk1, hk2⟩ := HKJ.out j hj
          have hkb := gLv_bd (by omega) hk1
          have HGK : Hid (∀ g ∈ lvK S x (lvN G k) j, valid g.1 = true ∧ 0 ≤ g.2 ∧ g.2 ≤ 100000) := Lib.hid (fun g hg => ⟨(hk1.1 g hg).1, by have := (hk1.1 g hg).2.2; omega, by have := hkb.2 g hg; omega⟩)
          have hkl : (lvK S x (lvN G k) j).length ≤ 100000 := by have := hkb.1; omega
          have hxb : 0 ≤ x ∧ x ≤ 100000 := by have := HGE.out.2.2; omega
          have hnx : Hid (lvK S x (lvN G k) (j + 1) = addG (lvK S x (lvN G k) j) (lessL S i) x) := Lib.hid (by rw [lvK_succ _ _ _ _ hjl, hie, Int.toNat_natCast])
          have hb59 : Blk (w8.setCell ⟨b8, i, none⟩ (.int .i64 (y - 1))) b5 92 (arr (gRow (S, x))) := hbq5.below hbel9 (by omega)
          have ho9 := hoq.below (hbel9.mono (by omega))
          have hA9 := hAq.trans (hbel9.mono (by omega))
          have HWL : Hid (w.heap.size ≤ (w8.setCell ⟨b8, i, none⟩ (.int .i64 (y - 1))).heap.size) := Lib.hid hA9.size
          have HZ9 : Hid (z6 ≤ (w8.setCell ⟨b8, i, none⟩ (.int .i64 (y - 1))).heap.size) := Lib.hid (by have := hbel9.size; omega)
          have HH : Hid (w.heap.size ≤ b5 ∧ b5 < z5 ∧ z5 ≤ z6 ∧ z6 ≤ b8) := Lib.hid ⟨hbz, hz5, hz6, by omega⟩
          have hnb : b8 < w8.heap.size := hB8.lt
          clear hk1 hk2 hkb hpless hpg hyd hvL hy
          go_wp2_with (first
            | (refine wpList_load_part rfl 59 (.tmp 23) rfl b5 0 rfl (pad S) _ hRq Try.underlying59 rfl hi16 ?_)
            | (refine wpList_store_row rfl 59 (.tmp 8) (.tmp 24) rfl b8 rfl (arr (pad S)) rfl 59 _ hNew hiPD hsPD (arr_one _) ?_; (try rw [hb8e]); (try rw [hw8]))
            | (refine wpList_load_row rfl 59 (.tmp 8) rfl b8 rfl 59 (arr (pad (lessL S i))) (0, 0) _ hB9 Try.underlying59 rfl hiLD ?_)
            | ((with_reducible show wpList _ _ _ (Oper.mk _ (Op.build _ _) _ _ _ _ :: _) _ _); refine wpList_execG rfl (exec_build (u1 := .agg (arr (pad (lessL S i)))) (u2 := .int .i64 x) (v := .agg (arr (gRow (lessL S i, x)))) 92 (.tmp 31) (.tmp 33) rfl rfl rfl (T_buildG (pad (lessL S i)) hLl x _)) ?_)
            | (go_at_call 121; refine (addGrowth_any w.heap.size _ u3 (lvK S x (lvN G k) j) (lessL S i) x HGK.out HVL.out hxb hkl _ HO9.out HWL.out).mono ?_; rintro e wz ⟨v', rfl, hoZ, hgZ, hatZ⟩))
          go_roundw
          case rel =>
            obtain ⟨q1, q2, q3, q4⟩ := HH.out
            have q5 := hgZ.size
            have q6 := HZ9.out
            exact ⟨j + 1, by go_num, by omega, by rw [hnx.out]; exact hoZ, hb59.grown hgZ (fun e => by
              rcases hap.out b5 e.symm with h | h
              · omega
              · omega), ho9.grown hgZ (.inr fun e => by
              rcases hap.out gC e.symm with h | h
              · omega
              · omega), Lib.hid (fun g hg => by
              rcases hatZ g hg with h | h
              · exact hap.out g h
              · exact .inr (by omega)), hA9.grown hgZ HWL.out (fun k hk => HOQ.out.base k hk), by omega⟩
          case measure => simp [intOf] <;> omega
        · obtain rfl : j = (crn S).length := by omega
          go_wp2_with fail
          go_roundw
          case rel => exact ⟨k + 1, by go_num, by omega, by rw [HLV.out.2.1]; exact HOQ.out, hAq⟩
          case measure => simp [intOf] <;> omega
    · obtain rfl : k = G.length := by omega
      clear hlt
      go_wp2_with fail
      go_ret
      exact ⟨_, rfl, HO.out, hbel⟩
end Go.Proofs.Ythafbdpeignccaa
