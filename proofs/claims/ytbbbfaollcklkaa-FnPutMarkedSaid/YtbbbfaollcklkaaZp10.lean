/-
  Walks of the model: marked parts turned. Walks of the model: kinds of parts; stairs.
-/
import Derived.Test.YtbbbfaollcklkaaZp1
import Derived.Test.YtbbbfaollcklkaaZp2
import Derived.Test.YtbbbfaollcklkaaZp3
import Derived.Test.YtbbbfaollcklkaaZp4
import Derived.Test.YtbbbfaollcklkaaZp5
import Derived.Test.YtbbbfaollcklkaaZp6
import Derived.Test.YtbbbfaollcklkaaZp7
import Derived.Test.YtbbbfaollcklkaaZp8
import Derived.Test.YtbbbfaollcklkaaZp9
import Derived.StillTailTactics
import Derived.RegionTactic
import Derived.Deep.RegionHeld3
namespace Go.Proofs.Ytbbbfaollcklkaa
open Go.RowKit NP
set_option maxRecDepth 100000
set_option linter.unusedVariables false
set_option linter.unusedSimpArgs false
theorem cell_alloc {w : World} {p : Addr} {v : Value} {o : Obj} (h : w.cell? p = some v) : (w.alloc o).cell? p = some v := by
  rw [World.cell?_alloc_old w o p (Nat.ne_of_lt (World.block_lt_of_cell? _ _ h))]; exact h
theorem oper_store_one {P : Program} {o : Oper} {a : Act} {w w' : World} {K : Act → World → Prop} {Q : Exit → Act → World → Prop} (ty : TypeId) (x y : Operand) (ho : o.op = .store ty x y) (p : Addr) (hx : a.eval x = .pointer (some p))
    (hrun : (storeVar ty p (a.eval y)).run P w = .ok () w') (hK : K (a.put o.dst undef) w') : Oper.wp P o a w K Q := by
  unfold Oper.wp execOp
  simp only [ho, hx, Instr.storeAt, Instr.sureAddr, Sem.run_bind, Sem.run_pure, Result.andThen_ok, hrun]
  exact hK
theorem tnM_take {L : List Int} {bs : List Bool} {k : Nat} (hk : k < (conj L).length) : (tnM L bs).take (k + 1) = (tnM L bs).take k ++ [isC (conj L) k && bs.getD ((conj L).getD k 0 - 1).toNat false] := by
  have h : k < (tnM L bs).length := by unfold tnM; rw [mkOf_len]; exact hk
  rw [List.take_succ_eq_append_getElem h]
  unfold tnM mkOf
  simp
theorem T_boolC : (Try.prog.info? 4).map (fun i => (i.zero, i.size, i.bytes)) = some (some (.bool false), 1, 1) := by kernel_rfl
set_option maxHeartbeats 4000000 in
theorem sTurnMarked_C (C : List Int) (T : List Bool) (a1 a2 : Option Addr) (c1 c2 B1 B2 : Nat) (L : List Int) (bs : List Bool) (w : World) (h1 : Rd w B1 a1 (ints L)) (h2 : Rd w B2 a2 (bls bs)) (hB1 : B1 ≤ w.heap.size) (hB2 : B2 ≤ w.heap.size) (hl1 : L.length ≤ 4611686018427387904) (hl2 : bs.length ≤ 4611686018427387904) (hv : vmk L bs = true) (hC : C = conj L) (hT : T = tnM L bs) :
    Calls Try.prog 33 #[.agg #[.slice a1 L.length c1, .slice a2 bs.length c2]] w fun e w' => ∃ b1 d1 b2 d2, e = .returned (.agg #[.slice b1 C.length d1, .slice b2 T.length d2]) ∧ Own w' w.heap.size w'.heap.size 3 (.slice b1 C.length d1) (ints C) ∧ Own w' w.heap.size w'.heap.size 4 (.slice b2 T.length d2) (bls T) ∧ Below w.heap.size w w' := by
  obtain ⟨ib, hib, hx0, hx1, hx2⟩ := info_parts T_boolC
  have hmu := Try.underlying28
  have hi2 : (Try.prog.info? 28).map (·.size) = some 2 := T_mkL
  have hA0 : Below w.heap.size w ((w.alloc (.cells #[.slice a1 L.length c1, .slice a2 bs.length c2] 28)).alloc (.cells #[.slice none 0 0, .slice none 0 0] 28)) := ((Below.refl _ _).alloc (Nat.le_refl _) _).alloc (by simp) _
  have hb0 := (Blk.new w 28 #[.slice a1 L.length c1, .slice a2 bs.length c2]).alloc (.cells #[.slice none 0 0, .slice none 0 0] 28)
  have hr0 : Blk ((w.alloc (.cells #[.slice a1 L.length c1, .slice a2 bs.length c2] 28)).alloc (.cells #[.slice none 0 0, .slice none 0 0] 28)) (w.heap.size + 1) 28 #[.slice none 0 0, .slice none 0 0] := by
    have e := Blk.new (w.alloc (.cells #[.slice a1 L.length c1, .slice a2 bs.length c2] 28)) 28 #[.slice none 0 0, .slice none 0 0]
    rw [World.size_alloc] at e
    exact e
  obtain ⟨W, hW⟩ : ∃ W, (w.alloc (.cells #[.slice a1 L.length c1, .slice a2 bs.length c2] 28)).alloc (.cells #[.slice none 0 0, .slice none 0 0] 28) = W := ⟨_, rfl⟩
  have hWs : w.heap.size + 2 ≤ W.heap.size := by rw [← hW]; simp
  rw [hW] at hA0 hb0 hr0
  have hvm := vmk_iff.1 hv
  have HSC := Lib.hid (fun w (h : Rd w w.heap.size a1 (ints L)) => sconjugate_any a1 c1 w.heap.size L w h (Nat.le_refl _) hvm.1)
  rw [← hC] at HSC
  have hl16 := (valid_bd hvm.1).2.2.2
  have hcv := valid_conj hvm.1
  rw [← hC] at hcv
  have hcl := (valid_bd hcv).2.2.2
  have hws : w.heap.size ≤ W.heap.size := by omega
  have HVM := Lib.hid (validMarked_any a1 a2 c1 c2 w.heap.size w.heap.size L bs W ((h1.more hB1).below hA0) ((h2.more hB2).below hA0) hws hws hl1 hl2)
  rw [hv] at HVM
  have m10 : W.cell? ⟨w.heap.size, 0, none⟩ = some (.slice a1 L.length c1) := hb0.cell 0
  have m20 : W.cell? ⟨w.heap.size, 1, none⟩ = some (.slice a2 bs.length c2) := hb0.cell 1
  have HL1 := Lib.hid ((h1.more hB1).below hA0)
  have HL2 := Lib.hid (h2.more hB2)
  have HV := Lib.hid hvm.1
  have HCV := Lib.hid hcv
  have HLN := Lib.hid hvm.2.1
  have hb16 : bs.length ≤ 16 := by omega
  have HTN := Lib.hid (fun k (hk : k < C.length) => by have e := tnM_take (L := L) (bs := bs) (k := k) (by rw [← hC]; exact hk); rw [← hC, ← hT] at e; exact e)
  have HTL : Hid (T.length = C.length) := Lib.hid (by rw [hT, hC]; exact mkOf_len _ _)
  have HPAT := Lib.hid (fun i (hi : i < C.length) => pad_at hcv hi)
  have HCB : Hid (∀ i, i < C.length → (C.getD i 0 - 1).toNat < L.length) := Lib.hid (fun i hi => by
    have h9 := cnt_bd ((i : Int) + 1) L
    have h8 := pad_at hcv hi
    obtain ⟨_, _, h7, _⟩ := h8
    have h6 : C[i] = cnt ((i : Int) + 1) L := by have := conj_get L i (by rw [← hC]; exact hi); simp only [hC]; exact this
    rw [getD_lt hi, h6] at h7 ⊢
    omega)
  clear hv hvm hcv h1 h2 hC hT
  go_enter Try.func33, Try.ntmps33
  go_wp2_with (first
    | (go_at_call 38; refine HVM.out.mono ?_; rintro e w1 ⟨rfl, hb1⟩; have hx1 := hb0.below hb1 hb0.lt; have hr1 := hr0.below hb1 hr0.lt; have hz1 := hb1.size; have hbe1 := hA0.trans (hb1.mono hws); have m11 : w1.cell? ⟨w.heap.size, 0, none⟩ = some (.slice a1 L.length c1) := hx1.cell 0)
    | (go_at_call 64; refine (HSC.out w1 (((HL1.out).more hws).below hb1 |>.more hz1)).mono ?_; rintro e w2 ⟨aC, cC, rfl, ho2, hb2⟩; have HO2 := Lib.hid ho2; have hx2' := hx1.below hb2 hx1.lt; have hr2 := hr1.below hb2 hr1.lt; have hz2 := hb2.size; have hbe2 := hbe1.trans (hb2.mono (by omega)); clear ho2))
  have hG0 := Blk.new w2 28 #[.slice aC C.length cC, .slice none 0 0]
  have hE0 := Own.nil (w2.alloc (.cells #[.slice aC C.length cC, .slice none 0 0] 28)) (w2.heap.size + 1) 4
  have hB0 : Below w2.heap.size w2 (w2.alloc (.cells #[.slice aC C.length cC, .slice none 0 0] 28)) := (Below.refl _ _).alloc (Nat.le_refl _) _
  have HRC := Lib.hid HO2.out.rd
  clear hW hx1 hr0 hb0 m10 m20 m11 hb1 hb2 hr1
  go_loopw [4] (fun i wr => ∃ k : Nat, k ≤ C.length ∧ i = .int .i64 k ∧ Below w2.heap.size w2 wr ∧ ∃ vM, Blk wr w2.heap.size 28 #[.slice aC C.length cC, vM] ∧ Own wr (w2.heap.size + 1) wr.heap.size 4 vM (bls (T.take k))) (fun i _ => 20 - (intOf i).toNat)
  case atStart => exact ⟨0, Nat.zero_le _, rfl, hB0, _, hG0, hE0⟩
  case round =>
    obtain ⟨k, hk, rfl, hbel, vM, hG, hoM⟩ := hrel
    clear hG0 hE0 hB0
    have hxr := hx2'.below hbel (by omega)
    have hbw := hbe2.trans (hbel.mono (by omega))
    have q1 : wr.cell? ⟨w.heap.size, 1, none⟩ = some (.slice a2 bs.length c2) := hxr.cell 1
    have q3 : wr.cell? ⟨w2.heap.size, 0, none⟩ = some (.slice aC C.length cC) := hG.cell 0
    have q4 : wr.cell? ⟨w2.heap.size, 1, none⟩ = some vM := hG.cell 1
    by_cases hlt : k < C.length
    · have hlt' : (k : Int) < (C.length : Int) := by omega
      obtain ⟨bC, oC, rfl, hbC, hcC⟩ := (HRC.out.below hbel).at_ hlt
      have hd9 := HCB.out k hlt
      obtain ⟨_, _, hd1, hd2⟩ := HPAT.out k hlt
      obtain ⟨d, hd⟩ : ∃ d : Nat, C.getD k 0 = (d : Int) + 1 := ⟨(C.getD k 0 - 1).toNat, by omega⟩
      have hdt : (C.getD k 0 - 1).toNat = d := by omega
      rw [hdt] at hd9
      have hdb : d < bs.length := by have := HLN.out; omega
      obtain ⟨b2, o2, rfl, hb2l, hcb⟩ := boolRe (HL2.out.below hbw) hdb
      have hgk : C.getD k 0 = C[k] := getD_lt hlt
      rw [hgk] at hd
      have HGK : Hid (C.getD k 0 = (d : Int) + 1) := Lib.hid (by rw [hgk, hd])
      rw [hd] at hcC
      have HTK := Lib.hid (HTN.out k hlt)
      rw [hdt] at HTK
      have HBD : Hid (bs.getD d false = bs[d]) := Lib.hid (by rw [List.getD_eq_getElem?_getD, List.getElem?_eq_getElem hdb]; rfl)
      rw [HBD.out] at HTK
      obtain ⟨m, hm⟩ : ∃ m, m = bs[d] := ⟨_, rfl⟩
      rw [← hm] at hcb HTK
      have hdbi : (d : Int) < (bs.length : Int) := by omega
      have hw1 : IntKind.i64.wrap ((k : Int) + 1) = (k : Int) + 1 := IntWalk.i64_in _ (by omega)
      have hw2 : IntKind.i64.wrap (d : Int) = (d : Int) := IntWalk.i64_in _ (by omega)
      have hk0 : (0 : Int) ≤ (k : Int) + 1 := by omega
      have hd0 : (0 : Int) ≤ (d : Int) := by omega
      have HO := Lib.hid hoM
      have hlv : (bls (T.take k)).length ≤ 16 := by rw [List.length_map, List.length_take]; have := HTL.out; omega
      have HHG := Lib.hid hG
      clear hm hgk hdt hd1 hd2 hoM HTN HPAT HCB
      have hxr5 : ∀ (w' : World), Below w2.heap.size w2 w' → w'.cell? ⟨w.heap.size, 1, none⟩ = some (.slice (some ⟨b2, o2, none⟩) bs.length c2) := fun w' h => (hx2'.below h (by omega)).cell 1
      have hcC5 : ∀ (w' : World), Below w2.heap.size w2 w' → w'.cell? ⟨bC, oC + k, none⟩ = some (.int .i64 ((d : Int) + 1)) := fun w' h => by
        have e1 := (h.cell (p := ⟨bC, oC + k, none⟩) hbC)
        have e2 := (hbel.cell (p := ⟨bC, oC + k, none⟩) hbC)
        rw [e1, ← e2]; exact hcC
      have hcb5 : ∀ (w' : World), Below w2.heap.size w2 w' → w'.cell? ⟨b2, o2 + d, none⟩ = some (.bool m) := fun w' h => by
        have hl : b2 < w2.heap.size := by omega
        have e1 := (h.cell (p := ⟨b2, o2 + d, none⟩) hl)
        have e2 := (hbel.cell (p := ⟨b2, o2 + d, none⟩) hl)
        rw [e1, ← e2]; exact hcb
      have HX5 := Lib.hid hxr5
      have HC5 := Lib.hid hcC5
      have HB5 := Lib.hid hcb5
      clear hxr5 hcC5 hcb5
      by_cases hend : k + 1 = C.length
      · have hbe : ((k : Int) + 1 == (C.length : Int)) = true := beq_iff_eq.2 (by omega)
        have HQ : Hid (isC C k = true) := Lib.hid (isC_end hend)
        rw [HQ.out] at HTK
        rw [Bool.true_and] at HTK
        clear hend
        go_wp2_with fail
        go_quiet (fail)
        go_wp2_with fail
        rename_i nq
        refine wp_region_held_drew (S := fun w' => w'.cell? ⟨w.heap.size, 1, none⟩ = some (.slice (some ⟨b2, o2, none⟩) bs.length c2) ∧ w'.cell? ⟨w2.heap.size, 0, none⟩ = some (.slice (some ⟨bC, oC, none⟩) C.length cC) ∧ w'.cell? ⟨bC, oC + k, none⟩ = some (.int .i64 ((d : Int) + 1)) ∧ w'.cell? ⟨b2, o2 + d, none⟩ = some (.bool m)) (by kernel_rfl) ⟨q1, q3, hcC, hcb⟩ (fun hS0 => ?_)
        obtain ⟨wy, hwy⟩ : ∃ wy, wy = (wr.drewN nq).drew := ⟨_, rfl⟩
        have HGy : Hid (Blk wy w2.heap.size 28 #[.slice (some ⟨bC, oC, none⟩) C.length cC, vM]) := Lib.hid (by rw [hwy]; exact (hG.drewN nq).drew)
        have HOy : Hid (Own wy (w2.heap.size + 1) wr.heap.size 4 vM (bls (T.take k))) := Lib.hid (by rw [hwy]; exact (HO.out.dr (Dr.n wr nq)).drew)
        have HBy : Hid (Below w2.heap.size w2 wy) := Lib.hid (by rw [hwy]; exact (hbel.trans ((Dr.n wr nq).below _)).trans ((Dr.n _ 1).below _))
        have q4y : wy.cell? ⟨w2.heap.size, 1, none⟩ = some vM := by rw [hwy]; exact q4
        have hwys : wr.heap.size ≤ wy.heap.size := by rw [hwy]; exact Nat.le_refl _
        rw [← hwy] at hS0 ⊢
        clear hwy
        refine wpAnyH_take (i := 0) (v := .pointer (some ⟨w2.heap.size, 1, none⟩)) (by simp only [List.getElem?_toArray, List.getElem?_cons_succ, List.getElem?_cons_zero]; exact rfl) (by kernel_rfl) (by kernel_rfl) (by kernel_rfl) (by intro _ _ _ h; exact h) (Or.inl ⟨by kernel_rfl, by intro w hSw; go_simp⟩) (by assumption) ?_
        simp only [Act.put, List.setIfInBounds_toArray, List.set_cons_zero, List.set_cons_succ, List.toList_toArray]
        refine wpAnyH_take (i := 2) (v := .bool true) (by simp only [List.getElem?_toArray, List.getElem?_cons_succ, List.getElem?_cons_zero]; exact rfl) (by kernel_rfl) (by kernel_rfl) (by kernel_rfl) (by intro _ _ _ h; exact h) (Or.inl ⟨by kernel_rfl, by intro w hSw; go_simp⟩) (by assumption) ?_
        simp only [Act.put, List.setIfInBounds_toArray, List.set_cons_zero, List.set_cons_succ, List.toList_toArray]
        refine wpAnyH_take (i := 3) (v := .bool true) (by simp only [List.getElem?_toArray, List.getElem?_cons_succ, List.getElem?_cons_zero]; exact rfl) (by kernel_rfl) (by kernel_rfl) (by kernel_rfl) (by intro _ _ _ h; exact h) (Or.inl ⟨by kernel_rfl, by intro w hSw; go_simp⟩) (by assumption) ?_
        simp only [Act.put, List.setIfInBounds_toArray, List.set_cons_zero, List.set_cons_succ, List.toList_toArray]
        refine wpAnyH_take (i := 4) (v := .pointer (some ⟨w.heap.size, 1, none⟩)) (by simp only [List.getElem?_toArray, List.getElem?_cons_succ, List.getElem?_cons_zero]; exact rfl) (by kernel_rfl) (by kernel_rfl) (by kernel_rfl) (by intro _ _ _ h; exact h) (Or.inl ⟨by kernel_rfl, by intro w hSw; go_simp⟩) (by assumption) ?_
        simp only [Act.put, List.setIfInBounds_toArray, List.set_cons_zero, List.set_cons_succ, List.toList_toArray]
        refine wpAnyH_take (i := 5) (v := .slice (some ⟨b2, o2, none⟩) bs.length c2) (by simp only [List.getElem?_toArray, List.getElem?_cons_succ, List.getElem?_cons_zero]; exact rfl) (by kernel_rfl) (by kernel_rfl) (by kernel_rfl) (by intro _ _ _ h; exact h) (Or.inl ⟨by kernel_rfl, by intro w hSw; obtain ⟨s1, s2, s3, s4⟩ := hSw; go_simp⟩) (by assumption) ?_
        simp only [Act.put, List.setIfInBounds_toArray, List.set_cons_zero, List.set_cons_succ, List.toList_toArray]
        refine wpAnyH_take (i := 6) (v := .pointer (some ⟨w2.heap.size, 0, none⟩)) (by simp only [List.getElem?_toArray, List.getElem?_cons_succ, List.getElem?_cons_zero]; exact rfl) (by kernel_rfl) (by kernel_rfl) (by kernel_rfl) (by intro _ _ _ h; exact h) (Or.inl ⟨by kernel_rfl, by intro w hSw; go_simp⟩) (by assumption) ?_
        simp only [Act.put, List.setIfInBounds_toArray, List.set_cons_zero, List.set_cons_succ, List.toList_toArray]
        refine wpAnyH_take (i := 7) (v := .slice (some ⟨bC, oC, none⟩) C.length cC) (by simp only [List.getElem?_toArray, List.getElem?_cons_succ, List.getElem?_cons_zero]; exact rfl) (by kernel_rfl) (by kernel_rfl) (by kernel_rfl) (by intro _ _ _ h; exact h) (Or.inl ⟨by kernel_rfl, by intro w hSw; obtain ⟨s1, s2, s3, s4⟩ := hSw; go_simp⟩) (by assumption) ?_
        simp only [Act.put, List.setIfInBounds_toArray, List.set_cons_zero, List.set_cons_succ, List.toList_toArray]
        refine wpAnyH_take (i := 8) (v := .int .i64 (k : Int)) (by simp only [List.getElem?_toArray, List.getElem?_cons_succ, List.getElem?_cons_zero]; exact rfl) (by kernel_rfl) (by kernel_rfl) (by kernel_rfl) (by intro _ _ _ h; exact h) (Or.inl ⟨by kernel_rfl, by intro w hSw; go_simp⟩) (by assumption) ?_
        simp only [Act.put, List.setIfInBounds_toArray, List.set_cons_zero, List.set_cons_succ, List.toList_toArray]
        refine wpAnyH_take (i := 9) (v := .pointer (some ⟨bC, oC + k, none⟩)) (by simp only [List.getElem?_toArray, List.getElem?_cons_succ, List.getElem?_cons_zero]; exact rfl) (by kernel_rfl) (by kernel_rfl) (by kernel_rfl) (by intro _ _ _ h; exact h) (Or.inl ⟨by kernel_rfl, by intro w hSw; go_simp⟩) (by assumption) ?_
        simp only [Act.put, List.setIfInBounds_toArray, List.set_cons_zero, List.set_cons_succ, List.toList_toArray]
        refine wpAnyH_take (i := 10) (v := .int .i64 ((d : Int) + 1)) (by simp only [List.getElem?_toArray, List.getElem?_cons_succ, List.getElem?_cons_zero]; exact rfl) (by kernel_rfl) (by kernel_rfl) (by kernel_rfl) (by intro _ _ _ h; exact h) (Or.inl ⟨by kernel_rfl, by intro w hSw; obtain ⟨s1, s2, s3, s4⟩ := hSw; go_simp⟩) (by assumption) ?_
        simp only [Act.put, List.setIfInBounds_toArray, List.set_cons_zero, List.set_cons_succ, List.toList_toArray]
        refine wpAnyH_take (i := 11) (v := .int .i64 (d : Int)) (by simp only [List.getElem?_toArray, List.getElem?_cons_succ, List.getElem?_cons_zero]; exact rfl) (by kernel_rfl) (by kernel_rfl) (by kernel_rfl) (by intro _ _ _ h; exact h) (Or.inl ⟨by kernel_rfl, by intro w hSw; go_simp⟩) (by assumption) ?_
        simp only [Act.put, List.setIfInBounds_toArray, List.set_cons_zero, List.set_cons_succ, List.toList_toArray]
        refine wpAnyH_take (i := 12) (v := .pointer (some ⟨b2, o2 + d, none⟩)) (by simp only [List.getElem?_toArray, List.getElem?_cons_succ, List.getElem?_cons_zero]; exact rfl) (by kernel_rfl) (by kernel_rfl) (by kernel_rfl) (by intro _ _ _ h; exact h) (Or.inl ⟨by kernel_rfl, by intro w hSw; go_simp⟩) (by assumption) ?_
        simp only [Act.put, List.setIfInBounds_toArray, List.set_cons_zero, List.set_cons_succ, List.toList_toArray]
        refine wpAnyH_take (i := 13) (v := .bool m) (by simp only [List.getElem?_toArray, List.getElem?_cons_succ, List.getElem?_cons_zero]; exact rfl) (by kernel_rfl) (by kernel_rfl) (by kernel_rfl) (by intro _ _ _ h; exact h) (Or.inl ⟨by kernel_rfl, by intro w hSw; obtain ⟨s1, s2, s3, s4⟩ := hSw; go_simp⟩) (by assumption) ?_
        simp only [Act.put, List.setIfInBounds_toArray, List.set_cons_zero, List.set_cons_succ, List.toList_toArray]
        refine wpAnyH_take (i := 14) (v := .bool m) (by simp only [List.getElem?_toArray, List.getElem?_cons_succ, List.getElem?_cons_zero]; exact rfl) (by kernel_rfl) (by kernel_rfl) (by kernel_rfl) (by intro _ _ _ h; exact h) (Or.inl ⟨by kernel_rfl, by intro w hSw; go_simp⟩) (by assumption) ?_
        simp only [Act.put, List.setIfInBounds_toArray, List.set_cons_zero, List.set_cons_succ, List.toList_toArray]
        refine wpAnyH_ready (rs := [1, 15]) (by kernel_rfl) (by simp) ?_
        refine AllReadyH.cons (o := _) (by simp only [List.getElem?_toArray, List.getElem?_cons_succ, List.getElem?_cons_zero]; exact rfl) (fun K hK => ?_) ?_
        · skip
          rw [if_pos (by rfl)]
          go_simp
          refine hK.out _ _ hS0 (fun hS1 => ?_)
          clear hK K
          try simp only [Act.put, List.setIfInBounds_toArray, List.set_cons_zero, List.set_cons_succ, List.toList_toArray]
          refine wpAnyH_ready (rs := [15]) (by kernel_rfl) (by simp) ?_
          refine AllReadyH.cons (o := _) (by simp only [List.getElem?_toArray, List.getElem?_cons_succ, List.getElem?_cons_zero]; exact rfl) (fun K hK => ?_) AllReadyH.nil
          rw [if_pos (by rfl)]
          go_simp
          have hWe : ∃ Wy, Wy = wy.alloc (.cells #[.bool m] 4) := ⟨_, rfl⟩
          obtain ⟨Wy, hWy⟩ := hWe
          have hSy : (fun w' => w'.cell? ⟨w.heap.size, 1, none⟩ = some (.slice (some ⟨b2, o2, none⟩) bs.length c2) ∧ w'.cell? ⟨w2.heap.size, 0, none⟩ = some (.slice (some ⟨bC, oC, none⟩) C.length cC) ∧ w'.cell? ⟨bC, oC + k, none⟩ = some (.int .i64 ((d : Int) + 1)) ∧ w'.cell? ⟨b2, o2 + d, none⟩ = some (.bool m)) Wy := by obtain ⟨s1, s2, s3, s4⟩ := hS1; rw [hWy]; exact ⟨cell_alloc s1, cell_alloc s2, cell_alloc s3, cell_alloc s4⟩
          rw [← hWy]
          have HWY := Lib.hid hWy
          clear hWy
          refine hK.out _ _ hSy (fun hS2 => ?_)
          clear hK K
          try simp only [Act.put, List.setIfInBounds_toArray, List.set_cons_zero, List.set_cons_succ, List.toList_toArray]
          refine wpAnyH_ready (rs := [16]) (by kernel_rfl) (by simp) ?_
          refine AllReadyH.cons (o := _) (by simp only [List.getElem?_toArray, List.getElem?_cons_succ, List.getElem?_cons_zero]; exact rfl) (fun K hK => ?_) AllReadyH.nil
          have hoy : Own Wy (w2.heap.size + 1) wr.heap.size 4 vM (bls (T.take k)) := by rw [HWY.out]; exact HOy.out.alloc _
          have hry : Rd Wy (wy.heap.size + 1) (some ⟨wy.heap.size, 0, none⟩) [.bool m] := by rw [HWY.out]; exact Rd.one wy _ _
          have hGy : Blk Wy w2.heap.size 28 #[.slice (some ⟨bC, oC, none⟩) C.length cC, vM] := by rw [HWY.out]; exact HGy.out.alloc _
          have hBy : Below w2.heap.size w2 Wy := by rw [HWY.out]; exact HBy.out.alloc HBy.out.size _
          have hsy : wy.heap.size ≤ Wy.heap.size := by rw [HWY.out]; simp
          refine step_append_o Wy rfl (.tmp 42) (.tmp 56) 23 rfl (w2.heap.size + 1) wr.heap.size 4 ib (.bool false) 1 Try.underlying23 hib hx0 hx1 hx2 rfl vM (bls (T.take k)) rfl hoy (wy.heap.size + 1) (some ⟨wy.heap.size, 0, none⟩) 1 1 [.bool m] rfl hry rfl (by simp; rfl) (by unfold maxLen; omega) (by omega) (by have := hG.lt; omega) (fun v' w5 ho5 hg5 hat5 => ?_)
          have hb5 := hBy.grown hg5 hBy.size (fun g hg => by have := hoy.base g hg; omega)
          have hG5 := hGy.grown hg5 (fun e => by have := hoy.base _ e.symm; omega)
          have hS5 : (fun w' => w'.cell? ⟨w.heap.size, 1, none⟩ = some (.slice (some ⟨b2, o2, none⟩) bs.length c2) ∧ w'.cell? ⟨w2.heap.size, 0, none⟩ = some (.slice (some ⟨bC, oC, none⟩) C.length cC) ∧ w'.cell? ⟨bC, oC + k, none⟩ = some (.int .i64 ((d : Int) + 1)) ∧ w'.cell? ⟨b2, o2 + d, none⟩ = some (.bool m)) w5 := ⟨HX5.out w5 hb5, hG5.cell 0, HC5.out w5 hb5, HB5.out w5 hb5⟩
          refine hK.out _ _ hS5 (fun hS4 => ?_)
          clear hK K
          try simp only [Act.put, List.setIfInBounds_toArray, List.set_cons_zero, List.set_cons_succ, List.toList_toArray]
          have r4 : w5.cell? ⟨w2.heap.size, 1, none⟩ = some vM := hG5.cell 1
          have r5 : w5.frozen? ⟨w2.heap.size, 1, none⟩ = false := hG5.free 1
          refine wpAnyH_take (i := 17) (v := .pointer (some ⟨w2.heap.size, 1, none⟩)) (by simp only [List.getElem?_toArray, List.getElem?_cons_succ, List.getElem?_cons_zero]; exact rfl) (by kernel_rfl) (by kernel_rfl) (by kernel_rfl) (by intro _ _ _ h; exact h) (Or.inl ⟨by kernel_rfl, by intro w hSw; go_simp⟩) (by assumption) ?_
          simp only [Act.put, List.setIfInBounds_toArray, List.set_cons_zero, List.set_cons_succ, List.toList_toArray]
          refine wpAnyH_ready (rs := [18]) (by kernel_rfl) (by simp) ?_
          refine AllReadyH.cons (o := _) (by simp only [List.getElem?_toArray, List.getElem?_cons_succ, List.getElem?_cons_zero]; exact rfl) (fun K hK => ?_) AllReadyH.nil
          rw [if_pos (by rfl)]
          refine oper_store_one 23 (.tmp 58) (.tmp 57) rfl ⟨w2.heap.size, 1, none⟩ rfl (w' := w5.setCell ⟨w2.heap.size, 1, none⟩ v') (by have hq := r4; have hq' := r5; obtain ⟨av, cv, rfl⟩ := ho5.form; go_simp) ?_
          obtain ⟨w6, hw6⟩ : ∃ w6, w6 = w5.setCell ⟨w2.heap.size, 1, none⟩ v' := ⟨_, rfl⟩
          rw [← hw6]
          have hb6 : Below w2.heap.size w2 w6 := by rw [hw6]; exact hb5.setCell (show w2.heap.size ≤ w2.heap.size from Nat.le_refl _) _
          have hG6 : Blk w6 w2.heap.size 28 #[.slice (some ⟨bC, oC, none⟩) C.length cC, v'] := by rw [hw6]; exact hG5.set 1 v'
          have hs6 : w6.heap.size = w5.heap.size := by rw [hw6]; simp [World.setCell]
          have ho6 : Own w6 (w2.heap.size + 1) w6.heap.size 4 v' (bls (T.take k) ++ [.bool m]) := by rw [hs6]; exact ho5.keep (by omega) (fun g hg => by rw [hw6]; exact Below.heap_setCell _ _ _ g (show g ≠ w2.heap.size by have := ho5.base g hg; omega))
          have hS6 : (fun w' => w'.cell? ⟨w.heap.size, 1, none⟩ = some (.slice (some ⟨b2, o2, none⟩) bs.length c2) ∧ w'.cell? ⟨w2.heap.size, 0, none⟩ = some (.slice (some ⟨bC, oC, none⟩) C.length cC) ∧ w'.cell? ⟨bC, oC + k, none⟩ = some (.int .i64 ((d : Int) + 1)) ∧ w'.cell? ⟨b2, o2 + d, none⟩ = some (.bool m)) w6 := ⟨HX5.out w6 hb6, hG6.cell 0, HC5.out w6 hb6, HB5.out w6 hb6⟩
          refine hK.out _ _ hS6 (fun hS9 => ?_)
          clear hK K
          try simp only [Act.put, List.setIfInBounds_toArray, List.set_cons_zero, List.set_cons_succ, List.toList_toArray]
          refine wpAnyH_done (by kernel_rfl) ?_ _
          try simp only [Act.put, List.setIfInBounds_toArray, List.set_cons_zero, List.set_cons_succ]
          have HO6 := Lib.hid ho6
          have HB6 := Lib.hid hb6
          have HG6 := Lib.hid hG6
          clear ho6 hb6 hG6 hw6 hS6 hS9 hb5 hG5 r4 r5 ho5 hg5 hat5 hoy hry hGy hBy hS5 hSy
          go_wp2_with fail
          go_roundw
          case rel => exact ⟨k + 1, by omega, by go_num, HB6.out, _, HG6.out, by rw [HTK.out, bls, List.map_append]; exact HO6.out⟩
          case measure => simp [intOf]; omega
        refine AllReadyH.cons (o := _) (by simp only [List.getElem?_toArray, List.getElem?_cons_succ, List.getElem?_cons_zero]; exact rfl) (fun K hK => ?_) AllReadyH.nil
        rw [if_pos (by rfl)]
        go_simp
        have hWe : ∃ Wy, Wy = wy.alloc (.cells #[.bool m] 4) := ⟨_, rfl⟩
        obtain ⟨Wy, hWy⟩ := hWe
        have hSy : (fun w' => w'.cell? ⟨w.heap.size, 1, none⟩ = some (.slice (some ⟨b2, o2, none⟩) bs.length c2) ∧ w'.cell? ⟨w2.heap.size, 0, none⟩ = some (.slice (some ⟨bC, oC, none⟩) C.length cC) ∧ w'.cell? ⟨bC, oC + k, none⟩ = some (.int .i64 ((d : Int) + 1)) ∧ w'.cell? ⟨b2, o2 + d, none⟩ = some (.bool m)) Wy := by obtain ⟨s1, s2, s3, s4⟩ := hS0; rw [hWy]; exact ⟨cell_alloc s1, cell_alloc s2, cell_alloc s3, cell_alloc s4⟩
        rw [← hWy]
        have HWY := Lib.hid hWy
        clear hWy
        refine hK.out _ _ hSy (fun hS2 => ?_)
        clear hK K
        try simp only [Act.put, List.setIfInBounds_toArray, List.set_cons_zero, List.set_cons_succ, List.toList_toArray]
        refine wpAnyH_ready (rs := [1]) (by kernel_rfl) (by simp) ?_
        refine AllReadyH.cons (o := _) (by simp only [List.getElem?_toArray, List.getElem?_cons_succ, List.getElem?_cons_zero]; exact rfl) (fun K hK => ?_) AllReadyH.nil
        have r9 : Wy.cell? ⟨w2.heap.size, 1, none⟩ = some vM := by rw [HWY.out]; exact cell_alloc q4y
        rw [if_pos (by rfl)]
        go_simp
        refine hK.out _ _ hS2 (fun hS3 => ?_)
        clear hK K
        try simp only [Act.put, List.setIfInBounds_toArray, List.set_cons_zero, List.set_cons_succ, List.toList_toArray]
        refine wpAnyH_ready (rs := [16]) (by kernel_rfl) (by simp) ?_
        refine AllReadyH.cons (o := _) (by simp only [List.getElem?_toArray, List.getElem?_cons_succ, List.getElem?_cons_zero]; exact rfl) (fun K hK => ?_) AllReadyH.nil
        have hoy : Own Wy (w2.heap.size + 1) wr.heap.size 4 vM (bls (T.take k)) := by rw [HWY.out]; exact HOy.out.alloc _
        have hry : Rd Wy (wy.heap.size + 1) (some ⟨wy.heap.size, 0, none⟩) [.bool m] := by rw [HWY.out]; exact Rd.one wy _ _
        have hGy : Blk Wy w2.heap.size 28 #[.slice (some ⟨bC, oC, none⟩) C.length cC, vM] := by rw [HWY.out]; exact HGy.out.alloc _
        have hBy : Below w2.heap.size w2 Wy := by rw [HWY.out]; exact HBy.out.alloc HBy.out.size _
        have hsy : wy.heap.size ≤ Wy.heap.size := by rw [HWY.out]; simp
        refine step_append_o Wy rfl (.tmp 42) (.tmp 56) 23 rfl (w2.heap.size + 1) wr.heap.size 4 ib (.bool false) 1 Try.underlying23 hib hx0 hx1 hx2 rfl vM (bls (T.take k)) rfl hoy (wy.heap.size + 1) (some ⟨wy.heap.size, 0, none⟩) 1 1 [.bool m] rfl hry rfl (by simp; rfl) (by unfold maxLen; omega) (by omega) (by have := hG.lt; omega) (fun v' w5 ho5 hg5 hat5 => ?_)
        have hb5 := hBy.grown hg5 hBy.size (fun g hg => by have := hoy.base g hg; omega)
        have hG5 := hGy.grown hg5 (fun e => by have := hoy.base _ e.symm; omega)
        have hS5 : (fun w' => w'.cell? ⟨w.heap.size, 1, none⟩ = some (.slice (some ⟨b2, o2, none⟩) bs.length c2) ∧ w'.cell? ⟨w2.heap.size, 0, none⟩ = some (.slice (some ⟨bC, oC, none⟩) C.length cC) ∧ w'.cell? ⟨bC, oC + k, none⟩ = some (.int .i64 ((d : Int) + 1)) ∧ w'.cell? ⟨b2, o2 + d, none⟩ = some (.bool m)) w5 := ⟨HX5.out w5 hb5, hG5.cell 0, HC5.out w5 hb5, HB5.out w5 hb5⟩
        refine hK.out _ _ hS5 (fun hS4 => ?_)
        clear hK K
        try simp only [Act.put, List.setIfInBounds_toArray, List.set_cons_zero, List.set_cons_succ, List.toList_toArray]
        have r4 : w5.cell? ⟨w2.heap.size, 1, none⟩ = some vM := hG5.cell 1
        have r5 : w5.frozen? ⟨w2.heap.size, 1, none⟩ = false := hG5.free 1
        refine wpAnyH_take (i := 17) (v := .pointer (some ⟨w2.heap.size, 1, none⟩)) (by simp only [List.getElem?_toArray, List.getElem?_cons_succ, List.getElem?_cons_zero]; exact rfl) (by kernel_rfl) (by kernel_rfl) (by kernel_rfl) (by intro _ _ _ h; exact h) (Or.inl ⟨by kernel_rfl, by intro w hSw; go_simp⟩) (by assumption) ?_
        simp only [Act.put, List.setIfInBounds_toArray, List.set_cons_zero, List.set_cons_succ, List.toList_toArray]
        refine wpAnyH_ready (rs := [18]) (by kernel_rfl) (by simp) ?_
        refine AllReadyH.cons (o := _) (by simp only [List.getElem?_toArray, List.getElem?_cons_succ, List.getElem?_cons_zero]; exact rfl) (fun K hK => ?_) AllReadyH.nil
        rw [if_pos (by rfl)]
        refine oper_store_one 23 (.tmp 58) (.tmp 57) rfl ⟨w2.heap.size, 1, none⟩ rfl (w' := w5.setCell ⟨w2.heap.size, 1, none⟩ v') (by have hq := r4; have hq' := r5; obtain ⟨av, cv, rfl⟩ := ho5.form; go_simp) ?_
        obtain ⟨w6, hw6⟩ : ∃ w6, w6 = w5.setCell ⟨w2.heap.size, 1, none⟩ v' := ⟨_, rfl⟩
        rw [← hw6]
        have hb6 : Below w2.heap.size w2 w6 := by rw [hw6]; exact hb5.setCell (show w2.heap.size ≤ w2.heap.size from Nat.le_refl _) _
        have hG6 : Blk w6 w2.heap.size 28 #[.slice (some ⟨bC, oC, none⟩) C.length cC, v'] := by rw [hw6]; exact hG5.set 1 v'
        have hs6 : w6.heap.size = w5.heap.size := by rw [hw6]; simp [World.setCell]
        have ho6 : Own w6 (w2.heap.size + 1) w6.heap.size 4 v' (bls (T.take k) ++ [.bool m]) := by rw [hs6]; exact ho5.keep (by omega) (fun g hg => by rw [hw6]; exact Below.heap_setCell _ _ _ g (show g ≠ w2.heap.size by have := ho5.base g hg; omega))
        have hS6 : (fun w' => w'.cell? ⟨w.heap.size, 1, none⟩ = some (.slice (some ⟨b2, o2, none⟩) bs.length c2) ∧ w'.cell? ⟨w2.heap.size, 0, none⟩ = some (.slice (some ⟨bC, oC, none⟩) C.length cC) ∧ w'.cell? ⟨bC, oC + k, none⟩ = some (.int .i64 ((d : Int) + 1)) ∧ w'.cell? ⟨b2, o2 + d, none⟩ = some (.bool m)) w6 := ⟨HX5.out w6 hb6, hG6.cell 0, HC5.out w6 hb6, HB5.out w6 hb6⟩
        refine hK.out _ _ hS6 (fun hS9 => ?_)
        clear hK K
        try simp only [Act.put, List.setIfInBounds_toArray, List.set_cons_zero, List.set_cons_succ, List.toList_toArray]
        refine wpAnyH_done (by kernel_rfl) ?_ _
        try simp only [Act.put, List.setIfInBounds_toArray, List.set_cons_zero, List.set_cons_succ]
        have HO6 := Lib.hid ho6
        have HB6 := Lib.hid hb6
        have HG6 := Lib.hid hG6
        clear ho6 hb6 hG6 hw6 hS6 hS9 hb5 hG5 r4 r5 ho5 hg5 hat5 hoy hry hGy hBy hS5 hSy
        go_wp2_with fail
        go_roundw
        case rel => exact ⟨k + 1, by omega, by go_num, HB6.out, _, HG6.out, by rw [HTK.out, bls, List.map_append]; exact HO6.out⟩
        case measure => simp [intOf]; omega
      · have hne : ((k : Int) + 1 == (C.length : Int)) = false := beq_eq_false_iff_ne.2 (by omega)
        have hlt2 : k + 1 < C.length := by omega
        have hlt2' : (k : Int) + 1 < (C.length : Int) := by omega
        obtain ⟨b9, o9, e9, _, hcN⟩ := (HRC.out.below hbel).at_ hlt2
        injection e9 with e9; injection e9 with e9 e8; subst e9 e8
        have HIC : Hid (isC C k = decide (C[k + 1] < (d : Int) + 1)) := Lib.hid (by unfold isC; rw [decide_eq_false hend, Bool.false_or, getD_lt hlt2, HGK.out])
        generalize C[k + 1] = y at hcN HIC
        by_cases hy : y < (d : Int) + 1
        · have hyd : decide (y < (d : Int) + 1) = true := decide_eq_true hy
          rw [HIC.out, hyd, Bool.true_and] at HTK
          clear hend hy
          go_wp2_with fail
          go_quiet (fail)
          go_wp2_with fail
          rename_i nq
          refine wp_region_held_drew (S := fun w' => w'.cell? ⟨w.heap.size, 1, none⟩ = some (.slice (some ⟨b2, o2, none⟩) bs.length c2) ∧ w'.cell? ⟨w2.heap.size, 0, none⟩ = some (.slice (some ⟨bC, oC, none⟩) C.length cC) ∧ w'.cell? ⟨bC, oC + k, none⟩ = some (.int .i64 ((d : Int) + 1)) ∧ w'.cell? ⟨b2, o2 + d, none⟩ = some (.bool m)) (by kernel_rfl) ⟨q1, q3, hcC, hcb⟩ (fun hS0 => ?_)
          obtain ⟨wy, hwy⟩ : ∃ wy, wy = (wr.drewN nq).drew := ⟨_, rfl⟩
          have HGy : Hid (Blk wy w2.heap.size 28 #[.slice (some ⟨bC, oC, none⟩) C.length cC, vM]) := Lib.hid (by rw [hwy]; exact (hG.drewN nq).drew)
          have HOy : Hid (Own wy (w2.heap.size + 1) wr.heap.size 4 vM (bls (T.take k))) := Lib.hid (by rw [hwy]; exact (HO.out.dr (Dr.n wr nq)).drew)
          have HBy : Hid (Below w2.heap.size w2 wy) := Lib.hid (by rw [hwy]; exact (hbel.trans ((Dr.n wr nq).below _)).trans ((Dr.n _ 1).below _))
          have q4y : wy.cell? ⟨w2.heap.size, 1, none⟩ = some vM := by rw [hwy]; exact q4
          have hwys : wr.heap.size ≤ wy.heap.size := by rw [hwy]; exact Nat.le_refl _
          rw [← hwy] at hS0 ⊢
          clear hwy
          refine wpAnyH_take (i := 0) (v := .pointer (some ⟨w2.heap.size, 1, none⟩)) (by simp only [List.getElem?_toArray, List.getElem?_cons_succ, List.getElem?_cons_zero]; exact rfl) (by kernel_rfl) (by kernel_rfl) (by kernel_rfl) (by intro _ _ _ h; exact h) (Or.inl ⟨by kernel_rfl, by intro w hSw; go_simp⟩) (by assumption) ?_
          simp only [Act.put, List.setIfInBounds_toArray, List.set_cons_zero, List.set_cons_succ, List.toList_toArray]
          refine wpAnyH_take (i := 2) (v := .bool true) (by simp only [List.getElem?_toArray, List.getElem?_cons_succ, List.getElem?_cons_zero]; exact rfl) (by kernel_rfl) (by kernel_rfl) (by kernel_rfl) (by intro _ _ _ h; exact h) (Or.inl ⟨by kernel_rfl, by intro w hSw; go_simp⟩) (by assumption) ?_
          simp only [Act.put, List.setIfInBounds_toArray, List.set_cons_zero, List.set_cons_succ, List.toList_toArray]
          refine wpAnyH_take (i := 3) (v := .bool true) (by simp only [List.getElem?_toArray, List.getElem?_cons_succ, List.getElem?_cons_zero]; exact rfl) (by kernel_rfl) (by kernel_rfl) (by kernel_rfl) (by intro _ _ _ h; exact h) (Or.inl ⟨by kernel_rfl, by intro w hSw; go_simp⟩) (by assumption) ?_
          simp only [Act.put, List.setIfInBounds_toArray, List.set_cons_zero, List.set_cons_succ, List.toList_toArray]
          refine wpAnyH_take (i := 4) (v := .pointer (some ⟨w.heap.size, 1, none⟩)) (by simp only [List.getElem?_toArray, List.getElem?_cons_succ, List.getElem?_cons_zero]; exact rfl) (by kernel_rfl) (by kernel_rfl) (by kernel_rfl) (by intro _ _ _ h; exact h) (Or.inl ⟨by kernel_rfl, by intro w hSw; go_simp⟩) (by assumption) ?_
          simp only [Act.put, List.setIfInBounds_toArray, List.set_cons_zero, List.set_cons_succ, List.toList_toArray]
          refine wpAnyH_take (i := 5) (v := .slice (some ⟨b2, o2, none⟩) bs.length c2) (by simp only [List.getElem?_toArray, List.getElem?_cons_succ, List.getElem?_cons_zero]; exact rfl) (by kernel_rfl) (by kernel_rfl) (by kernel_rfl) (by intro _ _ _ h; exact h) (Or.inl ⟨by kernel_rfl, by intro w hSw; obtain ⟨s1, s2, s3, s4⟩ := hSw; go_simp⟩) (by assumption) ?_
          simp only [Act.put, List.setIfInBounds_toArray, List.set_cons_zero, List.set_cons_succ, List.toList_toArray]
          refine wpAnyH_take (i := 6) (v := .pointer (some ⟨w2.heap.size, 0, none⟩)) (by simp only [List.getElem?_toArray, List.getElem?_cons_succ, List.getElem?_cons_zero]; exact rfl) (by kernel_rfl) (by kernel_rfl) (by kernel_rfl) (by intro _ _ _ h; exact h) (Or.inl ⟨by kernel_rfl, by intro w hSw; go_simp⟩) (by assumption) ?_
          simp only [Act.put, List.setIfInBounds_toArray, List.set_cons_zero, List.set_cons_succ, List.toList_toArray]
          refine wpAnyH_take (i := 7) (v := .slice (some ⟨bC, oC, none⟩) C.length cC) (by simp only [List.getElem?_toArray, List.getElem?_cons_succ, List.getElem?_cons_zero]; exact rfl) (by kernel_rfl) (by kernel_rfl) (by kernel_rfl) (by intro _ _ _ h; exact h) (Or.inl ⟨by kernel_rfl, by intro w hSw; obtain ⟨s1, s2, s3, s4⟩ := hSw; go_simp⟩) (by assumption) ?_
          simp only [Act.put, List.setIfInBounds_toArray, List.set_cons_zero, List.set_cons_succ, List.toList_toArray]
          refine wpAnyH_take (i := 8) (v := .int .i64 (k : Int)) (by simp only [List.getElem?_toArray, List.getElem?_cons_succ, List.getElem?_cons_zero]; exact rfl) (by kernel_rfl) (by kernel_rfl) (by kernel_rfl) (by intro _ _ _ h; exact h) (Or.inl ⟨by kernel_rfl, by intro w hSw; go_simp⟩) (by assumption) ?_
          simp only [Act.put, List.setIfInBounds_toArray, List.set_cons_zero, List.set_cons_succ, List.toList_toArray]
          refine wpAnyH_take (i := 9) (v := .pointer (some ⟨bC, oC + k, none⟩)) (by simp only [List.getElem?_toArray, List.getElem?_cons_succ, List.getElem?_cons_zero]; exact rfl) (by kernel_rfl) (by kernel_rfl) (by kernel_rfl) (by intro _ _ _ h; exact h) (Or.inl ⟨by kernel_rfl, by intro w hSw; go_simp⟩) (by assumption) ?_
          simp only [Act.put, List.setIfInBounds_toArray, List.set_cons_zero, List.set_cons_succ, List.toList_toArray]
          refine wpAnyH_take (i := 10) (v := .int .i64 ((d : Int) + 1)) (by simp only [List.getElem?_toArray, List.getElem?_cons_succ, List.getElem?_cons_zero]; exact rfl) (by kernel_rfl) (by kernel_rfl) (by kernel_rfl) (by intro _ _ _ h; exact h) (Or.inl ⟨by kernel_rfl, by intro w hSw; obtain ⟨s1, s2, s3, s4⟩ := hSw; go_simp⟩) (by assumption) ?_
          simp only [Act.put, List.setIfInBounds_toArray, List.set_cons_zero, List.set_cons_succ, List.toList_toArray]
          refine wpAnyH_take (i := 11) (v := .int .i64 (d : Int)) (by simp only [List.getElem?_toArray, List.getElem?_cons_succ, List.getElem?_cons_zero]; exact rfl) (by kernel_rfl) (by kernel_rfl) (by kernel_rfl) (by intro _ _ _ h; exact h) (Or.inl ⟨by kernel_rfl, by intro w hSw; go_simp⟩) (by assumption) ?_
          simp only [Act.put, List.setIfInBounds_toArray, List.set_cons_zero, List.set_cons_succ, List.toList_toArray]
          refine wpAnyH_take (i := 12) (v := .pointer (some ⟨b2, o2 + d, none⟩)) (by simp only [List.getElem?_toArray, List.getElem?_cons_succ, List.getElem?_cons_zero]; exact rfl) (by kernel_rfl) (by kernel_rfl) (by kernel_rfl) (by intro _ _ _ h; exact h) (Or.inl ⟨by kernel_rfl, by intro w hSw; go_simp⟩) (by assumption) ?_
          simp only [Act.put, List.setIfInBounds_toArray, List.set_cons_zero, List.set_cons_succ, List.toList_toArray]
          refine wpAnyH_take (i := 13) (v := .bool m) (by simp only [List.getElem?_toArray, List.getElem?_cons_succ, List.getElem?_cons_zero]; exact rfl) (by kernel_rfl) (by kernel_rfl) (by kernel_rfl) (by intro _ _ _ h; exact h) (Or.inl ⟨by kernel_rfl, by intro w hSw; obtain ⟨s1, s2, s3, s4⟩ := hSw; go_simp⟩) (by assumption) ?_
          simp only [Act.put, List.setIfInBounds_toArray, List.set_cons_zero, List.set_cons_succ, List.toList_toArray]
          refine wpAnyH_take (i := 14) (v := .bool m) (by simp only [List.getElem?_toArray, List.getElem?_cons_succ, List.getElem?_cons_zero]; exact rfl) (by kernel_rfl) (by kernel_rfl) (by kernel_rfl) (by intro _ _ _ h; exact h) (Or.inl ⟨by kernel_rfl, by intro w hSw; go_simp⟩) (by assumption) ?_
          simp only [Act.put, List.setIfInBounds_toArray, List.set_cons_zero, List.set_cons_succ, List.toList_toArray]
          refine wpAnyH_ready (rs := [1, 15]) (by kernel_rfl) (by simp) ?_
          refine AllReadyH.cons (o := _) (by simp only [List.getElem?_toArray, List.getElem?_cons_succ, List.getElem?_cons_zero]; exact rfl) (fun K hK => ?_) ?_
          · skip
            rw [if_pos (by rfl)]
            go_simp
            refine hK.out _ _ hS0 (fun hS1 => ?_)
            clear hK K
            try simp only [Act.put, List.setIfInBounds_toArray, List.set_cons_zero, List.set_cons_succ, List.toList_toArray]
            refine wpAnyH_ready (rs := [15]) (by kernel_rfl) (by simp) ?_
            refine AllReadyH.cons (o := _) (by simp only [List.getElem?_toArray, List.getElem?_cons_succ, List.getElem?_cons_zero]; exact rfl) (fun K hK => ?_) AllReadyH.nil
            rw [if_pos (by rfl)]
            go_simp
            have hWe : ∃ Wy, Wy = wy.alloc (.cells #[.bool m] 4) := ⟨_, rfl⟩
            obtain ⟨Wy, hWy⟩ := hWe
            have hSy : (fun w' => w'.cell? ⟨w.heap.size, 1, none⟩ = some (.slice (some ⟨b2, o2, none⟩) bs.length c2) ∧ w'.cell? ⟨w2.heap.size, 0, none⟩ = some (.slice (some ⟨bC, oC, none⟩) C.length cC) ∧ w'.cell? ⟨bC, oC + k, none⟩ = some (.int .i64 ((d : Int) + 1)) ∧ w'.cell? ⟨b2, o2 + d, none⟩ = some (.bool m)) Wy := by obtain ⟨s1, s2, s3, s4⟩ := hS1; rw [hWy]; exact ⟨cell_alloc s1, cell_alloc s2, cell_alloc s3, cell_alloc s4⟩
            rw [← hWy]
            have HWY := Lib.hid hWy
            clear hWy
            refine hK.out _ _ hSy (fun hS2 => ?_)
            clear hK K
            try simp only [Act.put, List.setIfInBounds_toArray, List.set_cons_zero, List.set_cons_succ, List.toList_toArray]
            refine wpAnyH_ready (rs := [16]) (by kernel_rfl) (by simp) ?_
            refine AllReadyH.cons (o := _) (by simp only [List.getElem?_toArray, List.getElem?_cons_succ, List.getElem?_cons_zero]; exact rfl) (fun K hK => ?_) AllReadyH.nil
            have hoy : Own Wy (w2.heap.size + 1) wr.heap.size 4 vM (bls (T.take k)) := by rw [HWY.out]; exact HOy.out.alloc _
            have hry : Rd Wy (wy.heap.size + 1) (some ⟨wy.heap.size, 0, none⟩) [.bool m] := by rw [HWY.out]; exact Rd.one wy _ _
            have hGy : Blk Wy w2.heap.size 28 #[.slice (some ⟨bC, oC, none⟩) C.length cC, vM] := by rw [HWY.out]; exact HGy.out.alloc _
            have hBy : Below w2.heap.size w2 Wy := by rw [HWY.out]; exact HBy.out.alloc HBy.out.size _
            have hsy : wy.heap.size ≤ Wy.heap.size := by rw [HWY.out]; simp
            refine step_append_o Wy rfl (.tmp 42) (.tmp 56) 23 rfl (w2.heap.size + 1) wr.heap.size 4 ib (.bool false) 1 Try.underlying23 hib hx0 hx1 hx2 rfl vM (bls (T.take k)) rfl hoy (wy.heap.size + 1) (some ⟨wy.heap.size, 0, none⟩) 1 1 [.bool m] rfl hry rfl (by simp; rfl) (by unfold maxLen; omega) (by omega) (by have := hG.lt; omega) (fun v' w5 ho5 hg5 hat5 => ?_)
            have hb5 := hBy.grown hg5 hBy.size (fun g hg => by have := hoy.base g hg; omega)
            have hG5 := hGy.grown hg5 (fun e => by have := hoy.base _ e.symm; omega)
            have hS5 : (fun w' => w'.cell? ⟨w.heap.size, 1, none⟩ = some (.slice (some ⟨b2, o2, none⟩) bs.length c2) ∧ w'.cell? ⟨w2.heap.size, 0, none⟩ = some (.slice (some ⟨bC, oC, none⟩) C.length cC) ∧ w'.cell? ⟨bC, oC + k, none⟩ = some (.int .i64 ((d : Int) + 1)) ∧ w'.cell? ⟨b2, o2 + d, none⟩ = some (.bool m)) w5 := ⟨HX5.out w5 hb5, hG5.cell 0, HC5.out w5 hb5, HB5.out w5 hb5⟩
            refine hK.out _ _ hS5 (fun hS4 => ?_)
            clear hK K
            try simp only [Act.put, List.setIfInBounds_toArray, List.set_cons_zero, List.set_cons_succ, List.toList_toArray]
            have r4 : w5.cell? ⟨w2.heap.size, 1, none⟩ = some vM := hG5.cell 1
            have r5 : w5.frozen? ⟨w2.heap.size, 1, none⟩ = false := hG5.free 1
            refine wpAnyH_take (i := 17) (v := .pointer (some ⟨w2.heap.size, 1, none⟩)) (by simp only [List.getElem?_toArray, List.getElem?_cons_succ, List.getElem?_cons_zero]; exact rfl) (by kernel_rfl) (by kernel_rfl) (by kernel_rfl) (by intro _ _ _ h; exact h) (Or.inl ⟨by kernel_rfl, by intro w hSw; go_simp⟩) (by assumption) ?_
            simp only [Act.put, List.setIfInBounds_toArray, List.set_cons_zero, List.set_cons_succ, List.toList_toArray]
            refine wpAnyH_ready (rs := [18]) (by kernel_rfl) (by simp) ?_
            refine AllReadyH.cons (o := _) (by simp only [List.getElem?_toArray, List.getElem?_cons_succ, List.getElem?_cons_zero]; exact rfl) (fun K hK => ?_) AllReadyH.nil
            rw [if_pos (by rfl)]
            refine oper_store_one 23 (.tmp 58) (.tmp 57) rfl ⟨w2.heap.size, 1, none⟩ rfl (w' := w5.setCell ⟨w2.heap.size, 1, none⟩ v') (by have hq := r4; have hq' := r5; obtain ⟨av, cv, rfl⟩ := ho5.form; go_simp) ?_
            obtain ⟨w6, hw6⟩ : ∃ w6, w6 = w5.setCell ⟨w2.heap.size, 1, none⟩ v' := ⟨_, rfl⟩
            rw [← hw6]
            have hb6 : Below w2.heap.size w2 w6 := by rw [hw6]; exact hb5.setCell (show w2.heap.size ≤ w2.heap.size from Nat.le_refl _) _
            have hG6 : Blk w6 w2.heap.size 28 #[.slice (some ⟨bC, oC, none⟩) C.length cC, v'] := by rw [hw6]; exact hG5.set 1 v'
            have hs6 : w6.heap.size = w5.heap.size := by rw [hw6]; simp [World.setCell]
            have ho6 : Own w6 (w2.heap.size + 1) w6.heap.size 4 v' (bls (T.take k) ++ [.bool m]) := by rw [hs6]; exact ho5.keep (by omega) (fun g hg => by rw [hw6]; exact Below.heap_setCell _ _ _ g (show g ≠ w2.heap.size by have := ho5.base g hg; omega))
            have hS6 : (fun w' => w'.cell? ⟨w.heap.size, 1, none⟩ = some (.slice (some ⟨b2, o2, none⟩) bs.length c2) ∧ w'.cell? ⟨w2.heap.size, 0, none⟩ = some (.slice (some ⟨bC, oC, none⟩) C.length cC) ∧ w'.cell? ⟨bC, oC + k, none⟩ = some (.int .i64 ((d : Int) + 1)) ∧ w'.cell? ⟨b2, o2 + d, none⟩ = some (.bool m)) w6 := ⟨HX5.out w6 hb6, hG6.cell 0, HC5.out w6 hb6, HB5.out w6 hb6⟩
            refine hK.out _ _ hS6 (fun hS9 => ?_)
            clear hK K
            try simp only [Act.put, List.setIfInBounds_toArray, List.set_cons_zero, List.set_cons_succ, List.toList_toArray]
            refine wpAnyH_done (by kernel_rfl) ?_ _
            try simp only [Act.put, List.setIfInBounds_toArray, List.set_cons_zero, List.set_cons_succ]
            have HO6 := Lib.hid ho6
            have HB6 := Lib.hid hb6
            have HG6 := Lib.hid hG6
            clear ho6 hb6 hG6 hw6 hS6 hS9 hb5 hG5 r4 r5 ho5 hg5 hat5 hoy hry hGy hBy hS5 hSy
            go_wp2_with fail
            go_roundw
            case rel => exact ⟨k + 1, by omega, by go_num, HB6.out, _, HG6.out, by rw [HTK.out, bls, List.map_append]; exact HO6.out⟩
            case measure => simp [intOf]; omega
          refine AllReadyH.cons (o := _) (by simp only [List.getElem?_toArray, List.getElem?_cons_succ, List.getElem?_cons_zero]; exact rfl) (fun K hK => ?_) AllReadyH.nil
          rw [if_pos (by rfl)]
          go_simp
          have hWe : ∃ Wy, Wy = wy.alloc (.cells #[.bool m] 4) := ⟨_, rfl⟩
          obtain ⟨Wy, hWy⟩ := hWe
          have hSy : (fun w' => w'.cell? ⟨w.heap.size, 1, none⟩ = some (.slice (some ⟨b2, o2, none⟩) bs.length c2) ∧ w'.cell? ⟨w2.heap.size, 0, none⟩ = some (.slice (some ⟨bC, oC, none⟩) C.length cC) ∧ w'.cell? ⟨bC, oC + k, none⟩ = some (.int .i64 ((d : Int) + 1)) ∧ w'.cell? ⟨b2, o2 + d, none⟩ = some (.bool m)) Wy := by obtain ⟨s1, s2, s3, s4⟩ := hS0; rw [hWy]; exact ⟨cell_alloc s1, cell_alloc s2, cell_alloc s3, cell_alloc s4⟩
          rw [← hWy]
          have HWY := Lib.hid hWy
          clear hWy
          refine hK.out _ _ hSy (fun hS2 => ?_)
          clear hK K
          try simp only [Act.put, List.setIfInBounds_toArray, List.set_cons_zero, List.set_cons_succ, List.toList_toArray]
          refine wpAnyH_ready (rs := [1]) (by kernel_rfl) (by simp) ?_
          refine AllReadyH.cons (o := _) (by simp only [List.getElem?_toArray, List.getElem?_cons_succ, List.getElem?_cons_zero]; exact rfl) (fun K hK => ?_) AllReadyH.nil
          have r9 : Wy.cell? ⟨w2.heap.size, 1, none⟩ = some vM := by rw [HWY.out]; exact cell_alloc q4y
          rw [if_pos (by rfl)]
          go_simp
          refine hK.out _ _ hS2 (fun hS3 => ?_)
          clear hK K
          try simp only [Act.put, List.setIfInBounds_toArray, List.set_cons_zero, List.set_cons_succ, List.toList_toArray]
          refine wpAnyH_ready (rs := [16]) (by kernel_rfl) (by simp) ?_
          refine AllReadyH.cons (o := _) (by simp only [List.getElem?_toArray, List.getElem?_cons_succ, List.getElem?_cons_zero]; exact rfl) (fun K hK => ?_) AllReadyH.nil
          have hoy : Own Wy (w2.heap.size + 1) wr.heap.size 4 vM (bls (T.take k)) := by rw [HWY.out]; exact HOy.out.alloc _
          have hry : Rd Wy (wy.heap.size + 1) (some ⟨wy.heap.size, 0, none⟩) [.bool m] := by rw [HWY.out]; exact Rd.one wy _ _
          have hGy : Blk Wy w2.heap.size 28 #[.slice (some ⟨bC, oC, none⟩) C.length cC, vM] := by rw [HWY.out]; exact HGy.out.alloc _
          have hBy : Below w2.heap.size w2 Wy := by rw [HWY.out]; exact HBy.out.alloc HBy.out.size _
          have hsy : wy.heap.size ≤ Wy.heap.size := by rw [HWY.out]; simp
          refine step_append_o Wy rfl (.tmp 42) (.tmp 56) 23 rfl (w2.heap.size + 1) wr.heap.size 4 ib (.bool false) 1 Try.underlying23 hib hx0 hx1 hx2 rfl vM (bls (T.take k)) rfl hoy (wy.heap.size + 1) (some ⟨wy.heap.size, 0, none⟩) 1 1 [.bool m] rfl hry rfl (by simp; rfl) (by unfold maxLen; omega) (by omega) (by have := hG.lt; omega) (fun v' w5 ho5 hg5 hat5 => ?_)
          have hb5 := hBy.grown hg5 hBy.size (fun g hg => by have := hoy.base g hg; omega)
          have hG5 := hGy.grown hg5 (fun e => by have := hoy.base _ e.symm; omega)
          have hS5 : (fun w' => w'.cell? ⟨w.heap.size, 1, none⟩ = some (.slice (some ⟨b2, o2, none⟩) bs.length c2) ∧ w'.cell? ⟨w2.heap.size, 0, none⟩ = some (.slice (some ⟨bC, oC, none⟩) C.length cC) ∧ w'.cell? ⟨bC, oC + k, none⟩ = some (.int .i64 ((d : Int) + 1)) ∧ w'.cell? ⟨b2, o2 + d, none⟩ = some (.bool m)) w5 := ⟨HX5.out w5 hb5, hG5.cell 0, HC5.out w5 hb5, HB5.out w5 hb5⟩
          refine hK.out _ _ hS5 (fun hS4 => ?_)
          clear hK K
          try simp only [Act.put, List.setIfInBounds_toArray, List.set_cons_zero, List.set_cons_succ, List.toList_toArray]
          have r4 : w5.cell? ⟨w2.heap.size, 1, none⟩ = some vM := hG5.cell 1
          have r5 : w5.frozen? ⟨w2.heap.size, 1, none⟩ = false := hG5.free 1
          refine wpAnyH_take (i := 17) (v := .pointer (some ⟨w2.heap.size, 1, none⟩)) (by simp only [List.getElem?_toArray, List.getElem?_cons_succ, List.getElem?_cons_zero]; exact rfl) (by kernel_rfl) (by kernel_rfl) (by kernel_rfl) (by intro _ _ _ h; exact h) (Or.inl ⟨by kernel_rfl, by intro w hSw; go_simp⟩) (by assumption) ?_
          simp only [Act.put, List.setIfInBounds_toArray, List.set_cons_zero, List.set_cons_succ, List.toList_toArray]
          refine wpAnyH_ready (rs := [18]) (by kernel_rfl) (by simp) ?_
          refine AllReadyH.cons (o := _) (by simp only [List.getElem?_toArray, List.getElem?_cons_succ, List.getElem?_cons_zero]; exact rfl) (fun K hK => ?_) AllReadyH.nil
          rw [if_pos (by rfl)]
          refine oper_store_one 23 (.tmp 58) (.tmp 57) rfl ⟨w2.heap.size, 1, none⟩ rfl (w' := w5.setCell ⟨w2.heap.size, 1, none⟩ v') (by have hq := r4; have hq' := r5; obtain ⟨av, cv, rfl⟩ := ho5.form; go_simp) ?_
          obtain ⟨w6, hw6⟩ : ∃ w6, w6 = w5.setCell ⟨w2.heap.size, 1, none⟩ v' := ⟨_, rfl⟩
          rw [← hw6]
          have hb6 : Below w2.heap.size w2 w6 := by rw [hw6]; exact hb5.setCell (show w2.heap.size ≤ w2.heap.size from Nat.le_refl _) _
          have hG6 : Blk w6 w2.heap.size 28 #[.slice (some ⟨bC, oC, none⟩) C.length cC, v'] := by rw [hw6]; exact hG5.set 1 v'
          have hs6 : w6.heap.size = w5.heap.size := by rw [hw6]; simp [World.setCell]
          have ho6 : Own w6 (w2.heap.size + 1) w6.heap.size 4 v' (bls (T.take k) ++ [.bool m]) := by rw [hs6]; exact ho5.keep (by omega) (fun g hg => by rw [hw6]; exact Below.heap_setCell _ _ _ g (show g ≠ w2.heap.size by have := ho5.base g hg; omega))
          have hS6 : (fun w' => w'.cell? ⟨w.heap.size, 1, none⟩ = some (.slice (some ⟨b2, o2, none⟩) bs.length c2) ∧ w'.cell? ⟨w2.heap.size, 0, none⟩ = some (.slice (some ⟨bC, oC, none⟩) C.length cC) ∧ w'.cell? ⟨bC, oC + k, none⟩ = some (.int .i64 ((d : Int) + 1)) ∧ w'.cell? ⟨b2, o2 + d, none⟩ = some (.bool m)) w6 := ⟨HX5.out w6 hb6, hG6.cell 0, HC5.out w6 hb6, HB5.out w6 hb6⟩
          refine hK.out _ _ hS6 (fun hS9 => ?_)
          clear hK K
          try simp only [Act.put, List.setIfInBounds_toArray, List.set_cons_zero, List.set_cons_succ, List.toList_toArray]
          refine wpAnyH_done (by kernel_rfl) ?_ _
          try simp only [Act.put, List.setIfInBounds_toArray, List.set_cons_zero, List.set_cons_succ]
          have HO6 := Lib.hid ho6
          have HB6 := Lib.hid hb6
          have HG6 := Lib.hid hG6
          clear ho6 hb6 hG6 hw6 hS6 hS9 hb5 hG5 r4 r5 ho5 hg5 hat5 hoy hry hGy hBy hS5 hSy
          go_wp2_with fail
          go_roundw
          case rel => exact ⟨k + 1, by omega, by go_num, HB6.out, _, HG6.out, by rw [HTK.out, bls, List.map_append]; exact HO6.out⟩
          case measure => simp [intOf]; omega
        · have hyd : decide (y < (d : Int) + 1) = false := decide_eq_false hy
          rw [HIC.out, hyd, Bool.false_and] at HTK
          clear hend hy
          go_wp2_with fail
          go_quiet (fail)
          go_wp2_with fail
          rename_i nq
          refine wp_region_held_drew (S := fun w' => w'.cell? ⟨w.heap.size, 1, none⟩ = some (.slice (some ⟨b2, o2, none⟩) bs.length c2) ∧ w'.cell? ⟨w2.heap.size, 0, none⟩ = some (.slice (some ⟨bC, oC, none⟩) C.length cC) ∧ w'.cell? ⟨bC, oC + k, none⟩ = some (.int .i64 ((d : Int) + 1)) ∧ w'.cell? ⟨b2, o2 + d, none⟩ = some (.bool m)) (by kernel_rfl) ⟨q1, q3, hcC, hcb⟩ (fun hS0 => ?_)
          obtain ⟨wy, hwy⟩ : ∃ wy, wy = (wr.drewN nq).drew := ⟨_, rfl⟩
          have HGy : Hid (Blk wy w2.heap.size 28 #[.slice (some ⟨bC, oC, none⟩) C.length cC, vM]) := Lib.hid (by rw [hwy]; exact (hG.drewN nq).drew)
          have HOy : Hid (Own wy (w2.heap.size + 1) wr.heap.size 4 vM (bls (T.take k))) := Lib.hid (by rw [hwy]; exact (HO.out.dr (Dr.n wr nq)).drew)
          have HBy : Hid (Below w2.heap.size w2 wy) := Lib.hid (by rw [hwy]; exact (hbel.trans ((Dr.n wr nq).below _)).trans ((Dr.n _ 1).below _))
          have q4y : wy.cell? ⟨w2.heap.size, 1, none⟩ = some vM := by rw [hwy]; exact q4
          have hwys : wr.heap.size ≤ wy.heap.size := by rw [hwy]; exact Nat.le_refl _
          rw [← hwy] at hS0 ⊢
          clear hwy
          refine wpAnyH_take (i := 0) (v := .pointer (some ⟨w2.heap.size, 1, none⟩)) (by simp only [List.getElem?_toArray, List.getElem?_cons_succ, List.getElem?_cons_zero]; exact rfl) (by kernel_rfl) (by kernel_rfl) (by kernel_rfl) (by intro _ _ _ h; exact h) (Or.inl ⟨by kernel_rfl, by intro w hSw; go_simp⟩) (by assumption) ?_
          simp only [Act.put, List.setIfInBounds_toArray, List.set_cons_zero, List.set_cons_succ, List.toList_toArray]
          refine wpAnyH_take (i := 2) (v := .bool false) (by simp only [List.getElem?_toArray, List.getElem?_cons_succ, List.getElem?_cons_zero]; exact rfl) (by kernel_rfl) (by kernel_rfl) (by kernel_rfl) (by intro _ _ _ h; exact h) (Or.inl ⟨by kernel_rfl, by intro w hSw; go_simp⟩) (by assumption) ?_
          simp only [Act.put, List.setIfInBounds_toArray, List.set_cons_zero, List.set_cons_succ, List.toList_toArray]
          refine wpAnyH_take (i := 3) (v := .bool false) (by simp only [List.getElem?_toArray, List.getElem?_cons_succ, List.getElem?_cons_zero]; exact rfl) (by kernel_rfl) (by kernel_rfl) (by kernel_rfl) (by intro _ _ _ h; exact h) (Or.inl ⟨by kernel_rfl, by intro w hSw; go_simp⟩) (by assumption) ?_
          simp only [Act.put, List.setIfInBounds_toArray, List.set_cons_zero, List.set_cons_succ, List.toList_toArray]
          refine wpAnyH_take (i := 4) (v := undef) (by simp only [List.getElem?_toArray, List.getElem?_cons_succ, List.getElem?_cons_zero]; exact rfl) (by kernel_rfl) (by kernel_rfl) (by kernel_rfl) (by intro _ _ _ h; exact h) (Or.inr ⟨by kernel_rfl, rfl⟩) (by assumption) ?_
          simp only [Act.put, List.setIfInBounds_toArray, List.set_cons_zero, List.set_cons_succ, List.toList_toArray]
          refine wpAnyH_take (i := 5) (v := undef) (by simp only [List.getElem?_toArray, List.getElem?_cons_succ, List.getElem?_cons_zero]; exact rfl) (by kernel_rfl) (by kernel_rfl) (by kernel_rfl) (by intro _ _ _ h; exact h) (Or.inr ⟨by kernel_rfl, rfl⟩) (by assumption) ?_
          simp only [Act.put, List.setIfInBounds_toArray, List.set_cons_zero, List.set_cons_succ, List.toList_toArray]
          refine wpAnyH_take (i := 6) (v := undef) (by simp only [List.getElem?_toArray, List.getElem?_cons_succ, List.getElem?_cons_zero]; exact rfl) (by kernel_rfl) (by kernel_rfl) (by kernel_rfl) (by intro _ _ _ h; exact h) (Or.inr ⟨by kernel_rfl, rfl⟩) (by assumption) ?_
          simp only [Act.put, List.setIfInBounds_toArray, List.set_cons_zero, List.set_cons_succ, List.toList_toArray]
          refine wpAnyH_take (i := 7) (v := undef) (by simp only [List.getElem?_toArray, List.getElem?_cons_succ, List.getElem?_cons_zero]; exact rfl) (by kernel_rfl) (by kernel_rfl) (by kernel_rfl) (by intro _ _ _ h; exact h) (Or.inr ⟨by kernel_rfl, rfl⟩) (by assumption) ?_
          simp only [Act.put, List.setIfInBounds_toArray, List.set_cons_zero, List.set_cons_succ, List.toList_toArray]
          refine wpAnyH_take (i := 8) (v := undef) (by simp only [List.getElem?_toArray, List.getElem?_cons_succ, List.getElem?_cons_zero]; exact rfl) (by kernel_rfl) (by kernel_rfl) (by kernel_rfl) (by intro _ _ _ h; exact h) (Or.inr ⟨by kernel_rfl, rfl⟩) (by assumption) ?_
          simp only [Act.put, List.setIfInBounds_toArray, List.set_cons_zero, List.set_cons_succ, List.toList_toArray]
          refine wpAnyH_take (i := 9) (v := undef) (by simp only [List.getElem?_toArray, List.getElem?_cons_succ, List.getElem?_cons_zero]; exact rfl) (by kernel_rfl) (by kernel_rfl) (by kernel_rfl) (by intro _ _ _ h; exact h) (Or.inr ⟨by kernel_rfl, rfl⟩) (by assumption) ?_
          simp only [Act.put, List.setIfInBounds_toArray, List.set_cons_zero, List.set_cons_succ, List.toList_toArray]
          refine wpAnyH_take (i := 10) (v := undef) (by simp only [List.getElem?_toArray, List.getElem?_cons_succ, List.getElem?_cons_zero]; exact rfl) (by kernel_rfl) (by kernel_rfl) (by kernel_rfl) (by intro _ _ _ h; exact h) (Or.inr ⟨by kernel_rfl, rfl⟩) (by assumption) ?_
          simp only [Act.put, List.setIfInBounds_toArray, List.set_cons_zero, List.set_cons_succ, List.toList_toArray]
          refine wpAnyH_take (i := 11) (v := undef) (by simp only [List.getElem?_toArray, List.getElem?_cons_succ, List.getElem?_cons_zero]; exact rfl) (by kernel_rfl) (by kernel_rfl) (by kernel_rfl) (by intro _ _ _ h; exact h) (Or.inr ⟨by kernel_rfl, rfl⟩) (by assumption) ?_
          simp only [Act.put, List.setIfInBounds_toArray, List.set_cons_zero, List.set_cons_succ, List.toList_toArray]
          refine wpAnyH_take (i := 12) (v := undef) (by simp only [List.getElem?_toArray, List.getElem?_cons_succ, List.getElem?_cons_zero]; exact rfl) (by kernel_rfl) (by kernel_rfl) (by kernel_rfl) (by intro _ _ _ h; exact h) (Or.inr ⟨by kernel_rfl, rfl⟩) (by assumption) ?_
          simp only [Act.put, List.setIfInBounds_toArray, List.set_cons_zero, List.set_cons_succ, List.toList_toArray]
          refine wpAnyH_take (i := 13) (v := undef) (by simp only [List.getElem?_toArray, List.getElem?_cons_succ, List.getElem?_cons_zero]; exact rfl) (by kernel_rfl) (by kernel_rfl) (by kernel_rfl) (by intro _ _ _ h; exact h) (Or.inr ⟨by kernel_rfl, rfl⟩) (by assumption) ?_
          simp only [Act.put, List.setIfInBounds_toArray, List.set_cons_zero, List.set_cons_succ, List.toList_toArray]
          refine wpAnyH_take (i := 14) (v := .bool false) (by simp only [List.getElem?_toArray, List.getElem?_cons_succ, List.getElem?_cons_zero]; exact rfl) (by kernel_rfl) (by kernel_rfl) (by kernel_rfl) (by intro _ _ _ h; exact h) (Or.inl ⟨by kernel_rfl, by intro w hSw; go_simp⟩) (by assumption) ?_
          simp only [Act.put, List.setIfInBounds_toArray, List.set_cons_zero, List.set_cons_succ, List.toList_toArray]
          refine wpAnyH_ready (rs := [1, 15]) (by kernel_rfl) (by simp) ?_
          refine AllReadyH.cons (o := _) (by simp only [List.getElem?_toArray, List.getElem?_cons_succ, List.getElem?_cons_zero]; exact rfl) (fun K hK => ?_) ?_
          · skip
            rw [if_pos (by rfl)]
            go_simp
            refine hK.out _ _ hS0 (fun hS1 => ?_)
            clear hK K
            try simp only [Act.put, List.setIfInBounds_toArray, List.set_cons_zero, List.set_cons_succ, List.toList_toArray]
            refine wpAnyH_ready (rs := [15]) (by kernel_rfl) (by simp) ?_
            refine AllReadyH.cons (o := _) (by simp only [List.getElem?_toArray, List.getElem?_cons_succ, List.getElem?_cons_zero]; exact rfl) (fun K hK => ?_) AllReadyH.nil
            rw [if_pos (by rfl)]
            go_simp
            have hWe : ∃ Wy, Wy = wy.alloc (.cells #[.bool false] 4) := ⟨_, rfl⟩
            obtain ⟨Wy, hWy⟩ := hWe
            have hSy : (fun w' => w'.cell? ⟨w.heap.size, 1, none⟩ = some (.slice (some ⟨b2, o2, none⟩) bs.length c2) ∧ w'.cell? ⟨w2.heap.size, 0, none⟩ = some (.slice (some ⟨bC, oC, none⟩) C.length cC) ∧ w'.cell? ⟨bC, oC + k, none⟩ = some (.int .i64 ((d : Int) + 1)) ∧ w'.cell? ⟨b2, o2 + d, none⟩ = some (.bool m)) Wy := by obtain ⟨s1, s2, s3, s4⟩ := hS1; rw [hWy]; exact ⟨cell_alloc s1, cell_alloc s2, cell_alloc s3, cell_alloc s4⟩
            rw [← hWy]
            have HWY := Lib.hid hWy
            clear hWy
            refine hK.out _ _ hSy (fun hS2 => ?_)
            clear hK K
            try simp only [Act.put, List.setIfInBounds_toArray, List.set_cons_zero, List.set_cons_succ, List.toList_toArray]
            refine wpAnyH_ready (rs := [16]) (by kernel_rfl) (by simp) ?_
            refine AllReadyH.cons (o := _) (by simp only [List.getElem?_toArray, List.getElem?_cons_succ, List.getElem?_cons_zero]; exact rfl) (fun K hK => ?_) AllReadyH.nil
            have hoy : Own Wy (w2.heap.size + 1) wr.heap.size 4 vM (bls (T.take k)) := by rw [HWY.out]; exact HOy.out.alloc _
            have hry : Rd Wy (wy.heap.size + 1) (some ⟨wy.heap.size, 0, none⟩) [.bool false] := by rw [HWY.out]; exact Rd.one wy _ _
            have hGy : Blk Wy w2.heap.size 28 #[.slice (some ⟨bC, oC, none⟩) C.length cC, vM] := by rw [HWY.out]; exact HGy.out.alloc _
            have hBy : Below w2.heap.size w2 Wy := by rw [HWY.out]; exact HBy.out.alloc HBy.out.size _
            have hsy : wy.heap.size ≤ Wy.heap.size := by rw [HWY.out]; simp
            refine step_append_o Wy rfl (.tmp 42) (.tmp 56) 23 rfl (w2.heap.size + 1) wr.heap.size 4 ib (.bool false) 1 Try.underlying23 hib hx0 hx1 hx2 rfl vM (bls (T.take k)) rfl hoy (wy.heap.size + 1) (some ⟨wy.heap.size, 0, none⟩) 1 1 [.bool false] rfl hry rfl (by simp; rfl) (by unfold maxLen; omega) (by omega) (by have := hG.lt; omega) (fun v' w5 ho5 hg5 hat5 => ?_)
            have hb5 := hBy.grown hg5 hBy.size (fun g hg => by have := hoy.base g hg; omega)
            have hG5 := hGy.grown hg5 (fun e => by have := hoy.base _ e.symm; omega)
            have hS5 : (fun w' => w'.cell? ⟨w.heap.size, 1, none⟩ = some (.slice (some ⟨b2, o2, none⟩) bs.length c2) ∧ w'.cell? ⟨w2.heap.size, 0, none⟩ = some (.slice (some ⟨bC, oC, none⟩) C.length cC) ∧ w'.cell? ⟨bC, oC + k, none⟩ = some (.int .i64 ((d : Int) + 1)) ∧ w'.cell? ⟨b2, o2 + d, none⟩ = some (.bool m)) w5 := ⟨HX5.out w5 hb5, hG5.cell 0, HC5.out w5 hb5, HB5.out w5 hb5⟩
            refine hK.out _ _ hS5 (fun hS4 => ?_)
            clear hK K
            try simp only [Act.put, List.setIfInBounds_toArray, List.set_cons_zero, List.set_cons_succ, List.toList_toArray]
            have r4 : w5.cell? ⟨w2.heap.size, 1, none⟩ = some vM := hG5.cell 1
            have r5 : w5.frozen? ⟨w2.heap.size, 1, none⟩ = false := hG5.free 1
            refine wpAnyH_take (i := 17) (v := .pointer (some ⟨w2.heap.size, 1, none⟩)) (by simp only [List.getElem?_toArray, List.getElem?_cons_succ, List.getElem?_cons_zero]; exact rfl) (by kernel_rfl) (by kernel_rfl) (by kernel_rfl) (by intro _ _ _ h; exact h) (Or.inl ⟨by kernel_rfl, by intro w hSw; go_simp⟩) (by assumption) ?_
            simp only [Act.put, List.setIfInBounds_toArray, List.set_cons_zero, List.set_cons_succ, List.toList_toArray]
            refine wpAnyH_ready (rs := [18]) (by kernel_rfl) (by simp) ?_
            refine AllReadyH.cons (o := _) (by simp only [List.getElem?_toArray, List.getElem?_cons_succ, List.getElem?_cons_zero]; exact rfl) (fun K hK => ?_) AllReadyH.nil
            rw [if_pos (by rfl)]
            refine oper_store_one 23 (.tmp 58) (.tmp 57) rfl ⟨w2.heap.size, 1, none⟩ rfl (w' := w5.setCell ⟨w2.heap.size, 1, none⟩ v') (by have hq := r4; have hq' := r5; obtain ⟨av, cv, rfl⟩ := ho5.form; go_simp) ?_
            obtain ⟨w6, hw6⟩ : ∃ w6, w6 = w5.setCell ⟨w2.heap.size, 1, none⟩ v' := ⟨_, rfl⟩
            rw [← hw6]
            have hb6 : Below w2.heap.size w2 w6 := by rw [hw6]; exact hb5.setCell (show w2.heap.size ≤ w2.heap.size from Nat.le_refl _) _
            have hG6 : Blk w6 w2.heap.size 28 #[.slice (some ⟨bC, oC, none⟩) C.length cC, v'] := by rw [hw6]; exact hG5.set 1 v'
            have hs6 : w6.heap.size = w5.heap.size := by rw [hw6]; simp [World.setCell]
            have ho6 : Own w6 (w2.heap.size + 1) w6.heap.size 4 v' (bls (T.take k) ++ [.bool false]) := by rw [hs6]; exact ho5.keep (by omega) (fun g hg => by rw [hw6]; exact Below.heap_setCell _ _ _ g (show g ≠ w2.heap.size by have := ho5.base g hg; omega))
            have hS6 : (fun w' => w'.cell? ⟨w.heap.size, 1, none⟩ = some (.slice (some ⟨b2, o2, none⟩) bs.length c2) ∧ w'.cell? ⟨w2.heap.size, 0, none⟩ = some (.slice (some ⟨bC, oC, none⟩) C.length cC) ∧ w'.cell? ⟨bC, oC + k, none⟩ = some (.int .i64 ((d : Int) + 1)) ∧ w'.cell? ⟨b2, o2 + d, none⟩ = some (.bool m)) w6 := ⟨HX5.out w6 hb6, hG6.cell 0, HC5.out w6 hb6, HB5.out w6 hb6⟩
            refine hK.out _ _ hS6 (fun hS9 => ?_)
            clear hK K
            try simp only [Act.put, List.setIfInBounds_toArray, List.set_cons_zero, List.set_cons_succ, List.toList_toArray]
            refine wpAnyH_done (by kernel_rfl) ?_ _
            try simp only [Act.put, List.setIfInBounds_toArray, List.set_cons_zero, List.set_cons_succ]
            have HO6 := Lib.hid ho6
            have HB6 := Lib.hid hb6
            have HG6 := Lib.hid hG6
            clear ho6 hb6 hG6 hw6 hS6 hS9 hb5 hG5 r4 r5 ho5 hg5 hat5 hoy hry hGy hBy hS5 hSy
            go_wp2_with fail
            go_roundw
            case rel => exact ⟨k + 1, by omega, by go_num, HB6.out, _, HG6.out, by rw [HTK.out, bls, List.map_append]; exact HO6.out⟩
            case measure => simp [intOf]; omega
          refine AllReadyH.cons (o := _) (by simp only [List.getElem?_toArray, List.getElem?_cons_succ, List.getElem?_cons_zero]; exact rfl) (fun K hK => ?_) AllReadyH.nil
          rw [if_pos (by rfl)]
          go_simp
          have hWe : ∃ Wy, Wy = wy.alloc (.cells #[.bool false] 4) := ⟨_, rfl⟩
          obtain ⟨Wy, hWy⟩ := hWe
          have hSy : (fun w' => w'.cell? ⟨w.heap.size, 1, none⟩ = some (.slice (some ⟨b2, o2, none⟩) bs.length c2) ∧ w'.cell? ⟨w2.heap.size, 0, none⟩ = some (.slice (some ⟨bC, oC, none⟩) C.length cC) ∧ w'.cell? ⟨bC, oC + k, none⟩ = some (.int .i64 ((d : Int) + 1)) ∧ w'.cell? ⟨b2, o2 + d, none⟩ = some (.bool m)) Wy := by obtain ⟨s1, s2, s3, s4⟩ := hS0; rw [hWy]; exact ⟨cell_alloc s1, cell_alloc s2, cell_alloc s3, cell_alloc s4⟩
          rw [← hWy]
          have HWY := Lib.hid hWy
          clear hWy
          refine hK.out _ _ hSy (fun hS2 => ?_)
          clear hK K
          try simp only [Act.put, List.setIfInBounds_toArray, List.set_cons_zero, List.set_cons_succ, List.toList_toArray]
          refine wpAnyH_ready (rs := [1]) (by kernel_rfl) (by simp) ?_
          refine AllReadyH.cons (o := _) (by simp only [List.getElem?_toArray, List.getElem?_cons_succ, List.getElem?_cons_zero]; exact rfl) (fun K hK => ?_) AllReadyH.nil
          have r9 : Wy.cell? ⟨w2.heap.size, 1, none⟩ = some vM := by rw [HWY.out]; exact cell_alloc q4y
          rw [if_pos (by rfl)]
          go_simp
          refine hK.out _ _ hS2 (fun hS3 => ?_)
          clear hK K
          try simp only [Act.put, List.setIfInBounds_toArray, List.set_cons_zero, List.set_cons_succ, List.toList_toArray]
          refine wpAnyH_ready (rs := [16]) (by kernel_rfl) (by simp) ?_
          refine AllReadyH.cons (o := _) (by simp only [List.getElem?_toArray, List.getElem?_cons_succ, List.getElem?_cons_zero]; exact rfl) (fun K hK => ?_) AllReadyH.nil
          have hoy : Own Wy (w2.heap.size + 1) wr.heap.size 4 vM (bls (T.take k)) := by rw [HWY.out]; exact HOy.out.alloc _
          have hry : Rd Wy (wy.heap.size + 1) (some ⟨wy.heap.size, 0, none⟩) [.bool false] := by rw [HWY.out]; exact Rd.one wy _ _
          have hGy : Blk Wy w2.heap.size 28 #[.slice (some ⟨bC, oC, none⟩) C.length cC, vM] := by rw [HWY.out]; exact HGy.out.alloc _
          have hBy : Below w2.heap.size w2 Wy := by rw [HWY.out]; exact HBy.out.alloc HBy.out.size _
          have hsy : wy.heap.size ≤ Wy.heap.size := by rw [HWY.out]; simp
          refine step_append_o Wy rfl (.tmp 42) (.tmp 56) 23 rfl (w2.heap.size + 1) wr.heap.size 4 ib (.bool false) 1 Try.underlying23 hib hx0 hx1 hx2 rfl vM (bls (T.take k)) rfl hoy (wy.heap.size + 1) (some ⟨wy.heap.size, 0, none⟩) 1 1 [.bool false] rfl hry rfl (by simp; rfl) (by unfold maxLen; omega) (by omega) (by have := hG.lt; omega) (fun v' w5 ho5 hg5 hat5 => ?_)
          have hb5 := hBy.grown hg5 hBy.size (fun g hg => by have := hoy.base g hg; omega)
          have hG5 := hGy.grown hg5 (fun e => by have := hoy.base _ e.symm; omega)
          have hS5 : (fun w' => w'.cell? ⟨w.heap.size, 1, none⟩ = some (.slice (some ⟨b2, o2, none⟩) bs.length c2) ∧ w'.cell? ⟨w2.heap.size, 0, none⟩ = some (.slice (some ⟨bC, oC, none⟩) C.length cC) ∧ w'.cell? ⟨bC, oC + k, none⟩ = some (.int .i64 ((d : Int) + 1)) ∧ w'.cell? ⟨b2, o2 + d, none⟩ = some (.bool m)) w5 := ⟨HX5.out w5 hb5, hG5.cell 0, HC5.out w5 hb5, HB5.out w5 hb5⟩
          refine hK.out _ _ hS5 (fun hS4 => ?_)
          clear hK K
          try simp only [Act.put, List.setIfInBounds_toArray, List.set_cons_zero, List.set_cons_succ, List.toList_toArray]
          have r4 : w5.cell? ⟨w2.heap.size, 1, none⟩ = some vM := hG5.cell 1
          have r5 : w5.frozen? ⟨w2.heap.size, 1, none⟩ = false := hG5.free 1
          refine wpAnyH_take (i := 17) (v := .pointer (some ⟨w2.heap.size, 1, none⟩)) (by simp only [List.getElem?_toArray, List.getElem?_cons_succ, List.getElem?_cons_zero]; exact rfl) (by kernel_rfl) (by kernel_rfl) (by kernel_rfl) (by intro _ _ _ h; exact h) (Or.inl ⟨by kernel_rfl, by intro w hSw; go_simp⟩) (by assumption) ?_
          simp only [Act.put, List.setIfInBounds_toArray, List.set_cons_zero, List.set_cons_succ, List.toList_toArray]
          refine wpAnyH_ready (rs := [18]) (by kernel_rfl) (by simp) ?_
          refine AllReadyH.cons (o := _) (by simp only [List.getElem?_toArray, List.getElem?_cons_succ, List.getElem?_cons_zero]; exact rfl) (fun K hK => ?_) AllReadyH.nil
          rw [if_pos (by rfl)]
          refine oper_store_one 23 (.tmp 58) (.tmp 57) rfl ⟨w2.heap.size, 1, none⟩ rfl (w' := w5.setCell ⟨w2.heap.size, 1, none⟩ v') (by have hq := r4; have hq' := r5; obtain ⟨av, cv, rfl⟩ := ho5.form; go_simp) ?_
          obtain ⟨w6, hw6⟩ : ∃ w6, w6 = w5.setCell ⟨w2.heap.size, 1, none⟩ v' := ⟨_, rfl⟩
          rw [← hw6]
          have hb6 : Below w2.heap.size w2 w6 := by rw [hw6]; exact hb5.setCell (show w2.heap.size ≤ w2.heap.size from Nat.le_refl _) _
          have hG6 : Blk w6 w2.heap.size 28 #[.slice (some ⟨bC, oC, none⟩) C.length cC, v'] := by rw [hw6]; exact hG5.set 1 v'
          have hs6 : w6.heap.size = w5.heap.size := by rw [hw6]; simp [World.setCell]
          have ho6 : Own w6 (w2.heap.size + 1) w6.heap.size 4 v' (bls (T.take k) ++ [.bool false]) := by rw [hs6]; exact ho5.keep (by omega) (fun g hg => by rw [hw6]; exact Below.heap_setCell _ _ _ g (show g ≠ w2.heap.size by have := ho5.base g hg; omega))
          have hS6 : (fun w' => w'.cell? ⟨w.heap.size, 1, none⟩ = some (.slice (some ⟨b2, o2, none⟩) bs.length c2) ∧ w'.cell? ⟨w2.heap.size, 0, none⟩ = some (.slice (some ⟨bC, oC, none⟩) C.length cC) ∧ w'.cell? ⟨bC, oC + k, none⟩ = some (.int .i64 ((d : Int) + 1)) ∧ w'.cell? ⟨b2, o2 + d, none⟩ = some (.bool m)) w6 := ⟨HX5.out w6 hb6, hG6.cell 0, HC5.out w6 hb6, HB5.out w6 hb6⟩
          refine hK.out _ _ hS6 (fun hS9 => ?_)
          clear hK K
          try simp only [Act.put, List.setIfInBounds_toArray, List.set_cons_zero, List.set_cons_succ, List.toList_toArray]
          refine wpAnyH_done (by kernel_rfl) ?_ _
          try simp only [Act.put, List.setIfInBounds_toArray, List.set_cons_zero, List.set_cons_succ]
          have HO6 := Lib.hid ho6
          have HB6 := Lib.hid hb6
          have HG6 := Lib.hid hG6
          clear ho6 hb6 hG6 hw6 hS6 hS9 hb5 hG5 r4 r5 ho5 hg5 hat5 hoy hry hGy hBy hS5 hSy
          go_wp2_with fail
          go_roundw
          case rel => exact ⟨k + 1, by omega, by go_num, HB6.out, _, HG6.out, by rw [HTK.out, bls, List.map_append]; exact HO6.out⟩
          case measure => simp [intOf]; omega
    · obtain rfl : k = C.length := by omega
      rw [List.take_of_length_le (by rw [HTL.out]; exact Nat.le_refl _)] at hoM
      obtain ⟨aM, cM, rfl⟩ := hoM.form
      rw [List.length_map] at hoM hG
      have hrr := hr2.below hbel (by omega)
      have HO := Lib.hid hoM
      clear hoM hxr q4
      go_wp2_with (first
        | (refine wpList_load_row rfl 28 (.tmp 3) rfl w2.heap.size rfl 28 #[.slice aC C.length cC, .slice aM T.length cM] (0, 0) _ hG hmu rfl hi2 ?_)
        | (refine wpList_store_row rfl 28 (.tmp 2) (.tmp 59) rfl (w.heap.size + 1) rfl #[.slice aC C.length cC, .slice aM T.length cM] rfl 28 _ hrr hi2 rfl (by simp [Value.oneCell']) ?_))
      refine bodyPost_ret (results_cell_row rfl _ _ (w.heap.size + 1) 28 #[.slice aC C.length cC, .slice aM T.length cM] (0, 0) _ rfl hrr.row hmu rfl hi2) rfl ?_
      have h9 := hr2.lt
      refine ⟨aC, cC, aM, cM, rfl, ?_, ?_, below_setRow' hbw (by omega) _⟩
      · have e := (HO2.out.below hbel).keep (w' := wr.setRow (w.heap.size + 1) #[.slice aC C.length cC, .slice aM T.length cM]) (by simp) (fun g hg => by
          have := HO2.out.base g hg
          exact setRow_other _ _ _ _ (by omega))
        have e2 := e.lower (lo' := w.heap.size) (by omega)
        exact ⟨e2.row, fun g hg => by have := e2.lt g hg; have := hbel.size; simp; omega, by simp⟩
      · have e := HO.out.keep (w' := wr.setRow (w.heap.size + 1) #[.slice aC C.length cC, .slice aM T.length cM]) (by simp) (fun g hg => by
          have := HO.out.base g hg
          exact setRow_other _ _ _ _ (by omega))
        have e2 := e.lower (lo' := w.heap.size) (by omega)
        simpa using e2
theorem sTurnMarked_any (a1 a2 : Option Addr) (c1 c2 B1 B2 : Nat) (L : List Int) (bs : List Bool) (w : World) (h1 : Rd w B1 a1 (ints L)) (h2 : Rd w B2 a2 (bls bs)) (hB1 : B1 ≤ w.heap.size) (hB2 : B2 ≤ w.heap.size) (hl1 : L.length ≤ 4611686018427387904) (hl2 : bs.length ≤ 4611686018427387904) (hv : vmk L bs = true) :
    Calls Try.prog 33 #[.agg #[.slice a1 L.length c1, .slice a2 bs.length c2]] w fun e w' => ∃ b1 d1 b2 d2, e = .returned (.agg #[.slice b1 (conj L).length d1, .slice b2 (tnM L bs).length d2]) ∧ Own w' w.heap.size w'.heap.size 3 (.slice b1 (conj L).length d1) (ints (conj L)) ∧ Own w' w.heap.size w'.heap.size 4 (.slice b2 (tnM L bs).length d2) (bls (tnM L bs)) ∧ Below w.heap.size w w' :=
  sTurnMarked_C (conj L) (tnM L bs) a1 a2 c1 c2 B1 B2 L bs w h1 h2 hB1 hB2 hl1 hl2 hv rfl rfl
end Go.Proofs.Ytbbbfaollcklkaa
namespace Go.Proofs.Ytbbbfaollcklkaa
open Go.RowKit NP
set_option maxRecDepth 8000
set_option linter.unusedVariables false
set_option linter.unusedSimpArgs false

set_option maxHeartbeats 1000000 in
theorem gaps_any (a : Option Addr) (c B : Nat) (L : List Int) (d : Int) (hd : 0 ≤ d ∧ d ≤ 100) (hv : valid L = true) (w : World) (h : Rd w B a (ints L)) :
    Calls Try.prog 54 #[.slice a L.length c, .int .i64 d] w fun e w' => e = .returned (.bool (kFall d d L)) ∧ ∃ n, w' = w.drewN n := by
  have hl16 := (valid_bd hv).2.2.2
  have HNN := Lib.hid (getD_nn hv)
  clear hv
  go_enter Try.func54, Try.ntmps54
  go_wp2
  go_loopw [5] (fun vi wr => ∃ k : Nat, k ≤ L.length - 1 ∧ vi = .int .i64 k ∧ Dr w wr ∧ Hid (∀ j, j < k → (fun j => decide ((if L.getD j 0 % 3 = 0 then d else d) ≤ L.getD j 0 - L.getD (j + 1) 0)) j = true)) (fun vi _ => L.length - (intOf vi).toNat)
  case atStart => exact ⟨0, Nat.zero_le _, rfl, Dr.refl _, Lib.hid fun j hj => by omega⟩
  case round =>
    obtain ⟨k, hk, rfl, hdr, HP⟩ := hrel
    by_cases hlt : k < L.length - 1
    · have hlt' : (k : Int) + 1 < (L.length : Int) := by omega
      have hR := h.dr hdr
      have hk0 : k < L.length := by omega
      have hk1 : k + 1 < L.length := by omega
      obtain ⟨b, o, rfl, _, hc⟩ := hR.at_ hk0
      obtain ⟨b', o', e', -, hc'⟩ := hR.at_ hk1
      injection e' with e'; injection e' with e2 e3; subst e2 e3
      have hx := HNN.out k
      have hy := HNN.out (k + 1)
      have hg : L.getD k 0 = L[k] := getD_lt hk0
      have hg' : L.getD (k + 1) 0 = L[k + 1] := getD_lt hk1
      rw [hg] at hx
      rw [hg'] at hy
      have HG := Lib.hid hg
      have HG' := Lib.hid hg'
      have HT : Hid (∀ x : Int, (if x % 3 = 0 then d else d) = d) := Lib.hid fun x => by split <;> rfl
      clear hg hg'
      generalize L[k] = x at hc hx HG
      generalize L[k + 1] = y at hc' hy HG'
      by_cases e2 : x - y < d
      · have HF : Hid (kFall d d L = false) := Lib.hid (allTo_no hlt (by rw [HG.out, HG'.out, HT.out]; simpa using e2))
        go_wp2_with fail
        go_quiet (fail)
        go_wp2
        go_ret
        exact ⟨ret_bool HF.out.symm, hdr.trans (Dr.n _ _)⟩
      · have e3 : d ≤ x - y := by omega
        clear e2
        go_wp2_with fail
        go_quiet (fail)
        go_wp2
        go_roundw
        case rel => exact ⟨k + 1, by omega, by go_num, hdr.drewN _, Lib.hid (upto HP.out (by show decide (_ ≤ _) = true; rw [HG.out, HG'.out, HT.out]; simpa using e3))⟩
        case measure => simp [intOf]; omega
    · have hge : ¬ (k : Int) + 1 < (L.length : Int) := by omega
      obtain rfl : k = L.length - 1 := by omega
      have HF : Hid (kFall d d L = true) := Lib.hid (allTo_yes HP.out)
      clear hlt
      go_wp2
      go_ret
      exact ⟨ret_bool HF.out.symm, hdr⟩

set_option maxHeartbeats 1000000 in
theorem same_any (a b : Option Addr) (ca cb Ba Bb : Nat) (L M : List Int) (hl : L.length ≤ 1000) (w : World) (h : Rd w Ba a (ints L)) (hm : Rd w Bb b (ints M)) (hml : M.length ≤ 1000) :
    Calls Try.prog 90 #[.slice a L.length ca, .slice b M.length cb] w fun e w' => e = .returned (.bool (decide (L = M))) ∧ ∃ n, w' = w.drewN n := by
  by_cases hlen : L.length = M.length
  · have b0 : ((L.length : Int) != (M.length : Int)) = false := by simp [hlen]
    go_enter Try.func90, Try.ntmps90
    go_wp2_with fail
    clear b0
    go_loopw [5] (fun vi wr => ∃ k : Nat, k ≤ L.length ∧ vi = .int .i64 k ∧ Dr w wr ∧ Hid (∀ j, j < k → L.getD j 0 = M.getD j 0)) (fun vi _ => L.length - (intOf vi).toNat)
    case atStart => exact ⟨0, Nat.zero_le _, rfl, Dr.refl _, Lib.hid fun j hj => by omega⟩
    case round =>
      obtain ⟨k, hk, rfl, hdr, HP⟩ := hrel
      by_cases hlt : k < L.length
      · have hlt' : (k : Int) < (L.length : Int) := by omega
        have hltm : k < M.length := by omega
        have hlt'm : (k : Int) < (M.length : Int) := by omega
        obtain ⟨b1, o1, rfl, _, hc⟩ := (h.dr hdr).at_ hlt
        obtain ⟨b2, o2, rfl, _, hc'⟩ := (hm.dr hdr).at_ hltm
        have HG : Hid (L.getD k 0 = L[k]) := Lib.hid (getD_lt hlt)
        have HG' : Hid (M.getD k 0 = M[k]) := Lib.hid (getD_lt hltm)
        by_cases e1 : L[k] = M[k]
        · have HE : Hid (L.getD k 0 = M.getD k 0) := Lib.hid (by rw [HG.out, HG'.out, e1])
          have b1 : (L[k] != M[k]) = false := by simp [e1]
          clear e1 hlen
          generalize L[k] = x at hc HG b1
          generalize M[k] = y at hc' HG' b1
          go_wp2_with fail
          go_quiet (fail)
          go_wp2
          go_roundw
          case rel => exact ⟨k + 1, by omega, by go_num, hdr.drewN _, Lib.hid fun j hj => by
            rcases Nat.lt_or_ge j k with h1 | h1
            · exact HP.out j h1
            · obtain rfl : j = k := by omega
              exact HE.out⟩
          case measure => simp [intOf]; omega
        · have HF : Hid (decide (L = M) = false) := Lib.hid (decide_eq_false fun hc => e1 (by subst hc; rfl))
          have b1 : (L[k] != M[k]) = true := by simpa using e1
          clear e1 hlen
          generalize L[k] = x at hc HG b1
          generalize M[k] = y at hc' HG' b1
          go_wp2_with fail
          go_quiet (fail)
          go_wp2
          go_ret
          exact ⟨ret_bool HF.out.symm, hdr.trans (Dr.n _ _)⟩
      · obtain rfl : k = L.length := by omega
        have HF : Hid (decide (L = M) = true) := Lib.hid (decide_eq_true (List.ext_getElem hlen fun j h1 h2 => by
          have := HP.out j h1
          rwa [getD_lt h1, getD_lt h2] at this))
        clear hlen
        go_wp2
        go_ret
        exact ⟨ret_bool HF.out.symm, hdr⟩
  · have b0 : ((L.length : Int) != (M.length : Int)) = true := by simp; omega
    have HF : Hid (decide (L = M) = false) := Lib.hid (decide_eq_false fun hc => hlen (by rw [hc]))
    clear hlen
    go_enter Try.func90, Try.ntmps90
    go_wp2_with fail
    go_ret
    exact ⟨ret_bool HF.out.symm, 0, rfl⟩

/-- whether all leave one of some remainders -/
def remIn (m : Int) (R : List Int) (L : List Int) : Bool := allTo (fun j => hasI R (L.getD j 0 % m)) L.length
set_option maxHeartbeats 1000000 in
theorem allRemain_any (a b : Option Addr) (c cb Bb B : Nat) (L R : List Int) (m : Int) (hm : 1 ≤ m ∧ m ≤ 100) (hv : valid L = true) (w : World) (h : Rd w B a (ints L)) (hr : Rd w Bb b (ints R)) (hrl : R.length ≤ 1000) :
    Calls Try.prog 89 #[.slice a L.length c, .int .i64 m, .slice b R.length cb] w fun e w' => e = .returned (.bool (remIn m R L)) ∧ w = w' := by
  have hl16 := (valid_bd hv).2.2.2
  have HNN := Lib.hid (getD_nn hv)
  clear hv
  go_enter Try.func89, Try.ntmps89
  go_wp2
  go_loop [7] (fun vi => ∃ k : Nat, k ≤ L.length ∧ vi = .int .i64 k ∧ Hid (∀ j, j < k → (fun j => hasI R (L.getD j 0 % m)) j = true)) (fun vi => L.length - (intOf vi).toNat)
  case atStart => exact ⟨0, Nat.zero_le _, rfl, Lib.hid fun j hj => by omega⟩
  case round =>
    obtain ⟨k, hk, rfl, HP⟩ := hrel
    by_cases hlt : k < L.length
    · have hlt' : (k : Int) < (L.length : Int) := by omega
      obtain ⟨b1, o1, rfl, _, hc⟩ := h.at_ hlt
      have hx := HNN.out k
      have hg : L.getD k 0 = L[k] := getD_lt hlt
      rw [hg] at hx
      have HG := Lib.hid hg
      clear hg
      generalize L[k] = x at hc hx HG
      obtain ⟨q, hq⟩ : ∃ q, x % m = q := ⟨_, rfl⟩
      have hq0 : x.tmod m = q := by rw [Int.tmod_eq_emod_of_nonneg hx.1]; exact hq
      have HQ := Lib.hid hq
      cases hh : hasI R q with
      | true =>
        have HH := Lib.hid hh
        clear hh
        go_wp2_with (go_at_call 57; refine (hasInt_any _ _ Bb R q _ hr (by omega)).mono ?_; rintro e w' ⟨rfl, rfl⟩; rw [HH.out])
        go_round
        case rel => exact ⟨k + 1, by omega, by go_num, Lib.hid (upto HP.out (by show hasI R _ = true; rw [HG.out, HQ.out, HH.out]))⟩
        case measure => simp [intOf]; omega
      | false =>
        have HH := Lib.hid hh
        have HF : Hid (remIn m R L = false) := Lib.hid (allTo_no hlt (by rw [HG.out, HQ.out, hh]))
        clear hh
        go_wp2_with (go_at_call 57; refine (hasInt_any _ _ Bb R q _ hr (by omega)).mono ?_; rintro e w' ⟨rfl, rfl⟩; rw [HH.out])
        go_ret
        exact ⟨ret_bool HF.out.symm, rfl⟩
    · obtain rfl : k = L.length := by omega
      have HF : Hid (remIn m R L = true) := Lib.hid (allTo_yes HP.out)
      go_wp2
      go_ret
      exact ⟨ret_bool HF.out.symm, rfl⟩


end Go.Proofs.Ytbbbfaollcklkaa
