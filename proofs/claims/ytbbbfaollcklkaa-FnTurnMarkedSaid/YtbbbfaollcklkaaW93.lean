/-
  Walks of the program: marked parts taken into a marked diagram.
-/
import Derived.Test.YtbbbfaollcklkaaM47
import Derived.Test.YtbbbfaollcklkaaW6
import Derived.Test.YtbbbfaollcklkaaArr2
import Derived.Test.YtbbbfaollcklkaaArr5
namespace Go.Proofs.Ytbbbfaollcklkaa
open Go.RowKit NP
set_option maxRecDepth 100000
set_option linter.unusedVariables false
set_option linter.unusedSimpArgs false
theorem T_md : (Try.prog.info? 53).map (·.size) = some 32 := by kernel_rfl
theorem T_mk : (Try.prog.info? 28).map (·.size) = some 2 := by kernel_rfl
theorem T_bmd0 (w : World) : (Instr.build 53 #[]).run Try.prog w = .ok (.agg (mdA (List.replicate 16 0) (List.replicate 16 false))) w := by kernel_rfl
theorem T_bmd1 (e0 e1 e2 e3 e4 e5 e6 e7 e8 e9 e10 e11 e12 e13 e14 e15 : Int) (w : World) : (Instr.build 53 #[(0, .agg (arr [e0, e1, e2, e3, e4, e5, e6, e7, e8, e9, e10, e11, e12, e13, e14, e15]))]).run Try.prog w = .ok (.agg (mdA [e0, e1, e2, e3, e4, e5, e6, e7, e8, e9, e10, e11, e12, e13, e14, e15] (List.replicate 16 false))) w := by kernel_rfl
theorem T_bmd (E : List Int) (hE : E.length = 16) (w : World) : (Instr.build 53 #[(0, .agg (arr E))]).run Try.prog w = .ok (.agg (mdA E (List.replicate 16 false))) w := by
  match E, hE with
  | [e0, e1, e2, e3, e4, e5, e6, e7, e8, e9, e10, e11, e12, e13, e14, e15], _ => exact T_bmd1 e0 e1 e2 e3 e4 e5 e6 e7 e8 e9 e10 e11 e12 e13 e14 e15 w
theorem exec_build1 {P : Program} {ρ : Operand → Value} {o : Oper} {w : World} {v u1 : Value} (t : TypeId) (x : Operand) (ho : o.op = .build t #[(0, x)]) (hx : ρ x = u1) (h : (Instr.build t #[(0, u1)]).run P w = .ok v w) :
    (execOp ρ o).run P w = .ok (.value v) w := by
  unfold execOp
  simp only [ho, Sem.run_bind, List.map_toArray, List.map_cons, List.map_nil, hx]
  rw [h]
  rfl
theorem wpList_exec {P : Program} {w : World} {ops : Array Oper} {rest : List Oper} {o : Oper} {a : Act} {Q : Exit → Act → World → Prop} (hgd : o.guard = none) {v : Value} (h : (execOp a.eval o).run P w = .ok (.value v) w)
    (hk : wpList P ops Q rest (a.put o.dst v) w) : wpList P ops Q (o :: rest) a w :=
  wpList_plain hgd fun _ hK => by
    unfold Oper.wp
    rw [h]
    exact hK _ _ hk
theorem boolAt {w : World} {B : Nat} {a : Option Addr} {bs : List Bool} (h : Rd w B a (bls bs)) {k : Nat} (hk : k < bs.length) : ∃ b o, a = some ⟨b, o, none⟩ ∧ b < B ∧ w.cell? ⟨b, o + k, none⟩ = some (.bool bs[k]) := by
  obtain ⟨b, o, h1, h2, h3⟩ := h (fun e => by
    have h0 : bs.length = 0 := by simpa using congrArg List.length e
    omega)
  exact ⟨b, o, h1, h2, h3 k _ (by simp [hk])⟩
set_option maxHeartbeats 4000000 in
theorem mdOf_any (a1 a2 : Option Addr) (c1 c2 B1 B2 : Nat) (L : List Int) (bs : List Bool) (w : World) (h1 : Rd w B1 a1 (ints L)) (h2 : Rd w B2 a2 (bls bs)) (hB1 : B1 ≤ w.heap.size) (hB2 : B2 ≤ w.heap.size) (hl1 : L.length ≤ 4611686018427387904) (hl2 : bs.length ≤ 4611686018427387904) :
    Calls Try.prog 40 #[.agg #[.slice a1 L.length c1, .slice a2 bs.length c2]] w fun e w' => e = .returned (.tuple #[.agg (mdA (mdD L bs) (mdE L bs)), .bool (vmk L bs)]) ∧ Below w.heap.size w w' := by
  have hu := Try.underlying50
  have hum := Try.underlying53
  have hi16 : (Try.prog.info? 50).map (·.size) = some (arr (dg L)).size := by rw [arr_size, dg_len]; exact T_info35
  have hsz : (arr (dg L)).size = (arr (List.replicate 16 0)).size := by rw [arr_size, arr_size, dg_len]; rfl
  have HDO := Lib.hid (fun w h hB => diagramOf_any a1 c1 B1 L w h hB hl1)
  obtain ⟨v, hv⟩ : ∃ v, v = valid L := ⟨_, rfl⟩
  rw [← hv] at HDO
  have hiZ : (Try.prog.info? 53).map (·.size) = some (#[.int .i64 0, .int .i64 0, .int .i64 0, .int .i64 0, .int .i64 0, .int .i64 0, .int .i64 0, .int .i64 0, .int .i64 0, .int .i64 0, .int .i64 0, .int .i64 0, .int .i64 0, .int .i64 0, .int .i64 0, .int .i64 0, .bool false, .bool false, .bool false, .bool false, .bool false, .bool false, .bool false, .bool false, .bool false, .bool false, .bool false, .bool false, .bool false, .bool false, .bool false, .bool false] : Array Value).size := T_md
  have honeZ : ∀ v ∈ (#[.int .i64 0, .int .i64 0, .int .i64 0, .int .i64 0, .int .i64 0, .int .i64 0, .int .i64 0, .int .i64 0, .int .i64 0, .int .i64 0, .int .i64 0, .int .i64 0, .int .i64 0, .int .i64 0, .int .i64 0, .int .i64 0, .bool false, .bool false, .bool false, .bool false, .bool false, .bool false, .bool false, .bool false, .bool false, .bool false, .bool false, .bool false, .bool false, .bool false, .bool false, .bool false] : Array Value).toList, v.oneCell' = true := mdA_one (List.replicate 16 0) (List.replicate 16 false)
  have HZN : Hid (vmk L bs = false → mdD L bs = List.replicate 16 0 ∧ mdE L bs = List.replicate 16 false) := Lib.hid (fun h => md_no h)
  have hb0 : Blk (w.alloc (.cells #[.slice a1 L.length c1, .slice a2 bs.length c2] 28)) w.heap.size 28 #[.slice a1 L.length c1, .slice a2 bs.length c2] := Blk.new w _ _
  have hbr0 : Blk ((w.alloc (.cells #[.slice a1 L.length c1, .slice a2 bs.length c2] 28)).alloc (.cells #[.int .i64 0, .int .i64 0, .int .i64 0, .int .i64 0, .int .i64 0, .int .i64 0, .int .i64 0, .int .i64 0, .int .i64 0, .int .i64 0, .int .i64 0, .int .i64 0, .int .i64 0, .int .i64 0, .int .i64 0, .int .i64 0, .bool false, .bool false, .bool false, .bool false, .bool false, .bool false, .bool false, .bool false, .bool false, .bool false, .bool false, .bool false, .bool false, .bool false, .bool false, .bool false] 53)) (w.heap.size + 1) 53 #[.int .i64 0, .int .i64 0, .int .i64 0, .int .i64 0, .int .i64 0, .int .i64 0, .int .i64 0, .int .i64 0, .int .i64 0, .int .i64 0, .int .i64 0, .int .i64 0, .int .i64 0, .int .i64 0, .int .i64 0, .int .i64 0, .bool false, .bool false, .bool false, .bool false, .bool false, .bool false, .bool false, .bool false, .bool false, .bool false, .bool false, .bool false, .bool false, .bool false, .bool false, .bool false] := by
    have e := Blk.new (w.alloc (.cells #[.slice a1 L.length c1, .slice a2 bs.length c2] 28)) 53 #[.int .i64 0, .int .i64 0, .int .i64 0, .int .i64 0, .int .i64 0, .int .i64 0, .int .i64 0, .int .i64 0, .int .i64 0, .int .i64 0, .int .i64 0, .int .i64 0, .int .i64 0, .int .i64 0, .int .i64 0, .int .i64 0, .bool false, .bool false, .bool false, .bool false, .bool false, .bool false, .bool false, .bool false, .bool false, .bool false, .bool false, .bool false, .bool false, .bool false, .bool false, .bool false]
    rw [World.size_alloc] at e
    exact e
  have hA0 : Below w.heap.size w ((w.alloc (.cells #[.slice a1 L.length c1, .slice a2 bs.length c2] 28)).alloc (.cells #[.int .i64 0, .int .i64 0, .int .i64 0, .int .i64 0, .int .i64 0, .int .i64 0, .int .i64 0, .int .i64 0, .int .i64 0, .int .i64 0, .int .i64 0, .int .i64 0, .int .i64 0, .int .i64 0, .int .i64 0, .int .i64 0, .bool false, .bool false, .bool false, .bool false, .bool false, .bool false, .bool false, .bool false, .bool false, .bool false, .bool false, .bool false, .bool false, .bool false, .bool false, .bool false] 53)) := ((Below.refl _ _).alloc (Nat.le_refl _) _).alloc (by simp) _
  have hb0' := hb0.alloc (.cells #[.int .i64 0, .int .i64 0, .int .i64 0, .int .i64 0, .int .i64 0, .int .i64 0, .int .i64 0, .int .i64 0, .int .i64 0, .int .i64 0, .int .i64 0, .int .i64 0, .int .i64 0, .int .i64 0, .int .i64 0, .int .i64 0, .bool false, .bool false, .bool false, .bool false, .bool false, .bool false, .bool false, .bool false, .bool false, .bool false, .bool false, .bool false, .bool false, .bool false, .bool false, .bool false] 53)
  obtain ⟨W, hW⟩ : ∃ W, (w.alloc (.cells #[.slice a1 L.length c1, .slice a2 bs.length c2] 28)).alloc (.cells #[.int .i64 0, .int .i64 0, .int .i64 0, .int .i64 0, .int .i64 0, .int .i64 0, .int .i64 0, .int .i64 0, .int .i64 0, .int .i64 0, .int .i64 0, .int .i64 0, .int .i64 0, .int .i64 0, .int .i64 0, .int .i64 0, .bool false, .bool false, .bool false, .bool false, .bool false, .bool false, .bool false, .bool false, .bool false, .bool false, .bool false, .bool false, .bool false, .bool false, .bool false, .bool false] 53) = W := ⟨_, rfl⟩
  have hWs : w.heap.size + 2 ≤ W.heap.size := by rw [← hW]; simp
  rw [hW] at hbr0 hA0 hb0'
  have hm1 : W.cell? ⟨w.heap.size, 0, none⟩ = some (.slice a1 L.length c1) := hb0'.cell 0
  have hm2 : W.cell? ⟨w.heap.size, 1, none⟩ = some (.slice a2 bs.length c2) := hb0'.cell 1
  have hr1 := (h1.more hB1).below hA0
  have hr2 := (h2.more hB2).below hA0
  have h2b := h2.more hB2
  have HDO2 : Hid (Calls Try.prog 52 #[.slice a1 L.length c1] W fun e w' => e = .returned (.tuple #[.agg (arr (dg L)), .bool v]) ∧ Below W.heap.size W w') := Lib.hid (HDO.out W (h1.below (hA0.mono (Nat.le_trans hB1 (Nat.le_refl _)))) (by omega))
  clear hb0 h1 h2 HDO
  cases v with
  | false =>
    have HF : Hid (vmk L bs = false) := Lib.hid (vmk_badL hv.symm)
    replace HZN := Lib.hid (HZN.out HF.out)
    clear hv
    go_enter Try.func40, Try.ntmps40
    go_wp2_with (first
      | (go_at_call 52; refine HDO2.out.mono ?_; rintro e w1 ⟨rfl, hb1⟩; have hzb1 := hb1.size)
      | (refine wpList_store_row rfl 50 (.tmp 4) (.tmp 13) rfl w1.heap.size rfl (arr (dg L)) rfl 50 (arr (List.replicate 16 0)) (Blk.new w1 _ _) hi16 hsz (arr_one _) ?_; have hB3 := (Blk.new w1 50 (arr (List.replicate 16 0))).row (vs := arr (dg L)); have hb13 : Below w1.heap.size w1 ((w1.alloc (.cells (arr (List.replicate 16 0)) 50)).setRow w1.heap.size (arr (dg L))) := below_setRow' ((Below.refl _ _).alloc (Nat.le_refl _) _) (Nat.le_refl _) _; obtain ⟨w3, hw3⟩ : ∃ w3, w3 = (w1.alloc (.cells (#[.int .i64 0, .int .i64 0, .int .i64 0, .int .i64 0, .int .i64 0, .int .i64 0, .int .i64 0, .int .i64 0, .int .i64 0, .int .i64 0, .int .i64 0, .int .i64 0, .int .i64 0, .int .i64 0, .int .i64 0, .int .i64 0]) 50)).setRow w1.heap.size (arr (dg L)) := ⟨_, rfl⟩; rw [← hw3]; replace hB3 : Blk w3 w1.heap.size 50 (arr (dg L)) := hw3 ▸ hB3; replace hb13 : Below w1.heap.size w1 w3 := hw3 ▸ hb13; clear hw3; have hbB := hb1.trans (hb13.mono hzb1); have hbr3 := hbr0.below hbB hbr0.lt; have hbel3 := hA0.trans (hbB.mono (by omega)))
      | (refine wpList_store_row rfl 53 (.tmp 2) (.tmp 26) rfl (w.heap.size + 1) rfl #[.int .i64 0, .int .i64 0, .int .i64 0, .int .i64 0, .int .i64 0, .int .i64 0, .int .i64 0, .int .i64 0, .int .i64 0, .int .i64 0, .int .i64 0, .int .i64 0, .int .i64 0, .int .i64 0, .int .i64 0, .int .i64 0, .bool false, .bool false, .bool false, .bool false, .bool false, .bool false, .bool false, .bool false, .bool false, .bool false, .bool false, .bool false, .bool false, .bool false, .bool false, .bool false] rfl 53 _ hbr3 hiZ rfl honeZ ?_))
    refine bodyPost_ret (results_cell_tmp rfl _ _ (w.heap.size + 1) 53 #[.int .i64 0, .int .i64 0, .int .i64 0, .int .i64 0, .int .i64 0, .int .i64 0, .int .i64 0, .int .i64 0, .int .i64 0, .int .i64 0, .int .i64 0, .int .i64 0, .int .i64 0, .int .i64 0, .int .i64 0, .int .i64 0, .bool false, .bool false, .bool false, .bool false, .bool false, .bool false, .bool false, .bool false, .bool false, .bool false, .bool false, .bool false, .bool false, .bool false, .bool false, .bool false] (0, 0) _ rfl hbr3.row hum rfl hiZ) rfl ?_
    rw [HF.out, HZN.out.1, HZN.out.2]
    exact ⟨rfl, below_setRow' hbel3 (by omega) _⟩
  | true =>
    have hvt := hv.symm
    have hbd := valid_bd hvt
    have hdg := dg_yes hvt
    rw [hdg] at hi16 hsz HDO2
    have HVT := Lib.hid hvt
    have hpl := pad_len hbd.2.2.2
    have hB1' : ∀ w : World, (Instr.build 53 #[(0, .agg (arr (pad L)))]).run Try.prog w = .ok (.agg (mdA (pad L) (padB (bs.take 0)))) w := fun w => T_bmd (pad L) hpl w
    have hiY : ∀ k, k ≤ 16 → (Try.prog.info? 53).map (·.size) = some (mdA (pad L) (padB (bs.take k))).size := fun k hk => by rw [mdA_size, hpl, padB_len (by rw [List.length_take]; omega)]; exact T_md
    have HIY := Lib.hid hiY
    have HPL := Lib.hid hpl
    clear hv hdg hvt hiY
    by_cases hlen : bs.length = L.length
    · have hne : ((bs.length : Int) != (L.length : Int)) = false := by simp [hlen]
      have hbl16 : bs.length ≤ 16 := by omega
      have HLEN := Lib.hid hlen
      clear hlen
      obtain ⟨Y, hY⟩ : ∃ Y, Y = mdA (pad L) (padB (bs.take 0)) := ⟨_, rfl⟩
      rw [← hY] at hB1'
      have hi0 : (Try.prog.info? 53).map (·.size) = some Y.size := by rw [hY]; exact HIY.out 0 (by omega)
      have hszY : Y.size = (#[.int .i64 0, .int .i64 0, .int .i64 0, .int .i64 0, .int .i64 0, .int .i64 0, .int .i64 0, .int .i64 0, .int .i64 0, .int .i64 0, .int .i64 0, .int .i64 0, .int .i64 0, .int .i64 0, .int .i64 0, .int .i64 0, .bool false, .bool false, .bool false, .bool false, .bool false, .bool false, .bool false, .bool false, .bool false, .bool false, .bool false, .bool false, .bool false, .bool false, .bool false, .bool false] : Array Value).size := by have e1 := HIY.out 0 (by omega); rw [← hY, hiZ] at e1; exact (Option.some.inj e1).symm
      have honeY : ∀ v ∈ Y.toList, v.oneCell' = true := by rw [hY]; exact mdA_one _ _
      have HYY := Lib.hid hY
      clear hY
      go_enter Try.func40, Try.ntmps40
      go_wp2_with (first
        | (go_at_call 52; refine HDO2.out.mono ?_; rintro e w1 ⟨rfl, hb1⟩; have hzb1 := hb1.size)
        | (refine wpList_store_row rfl 50 (.tmp 4) (.tmp 13) rfl w1.heap.size rfl (arr (pad L)) rfl 50 (arr (List.replicate 16 0)) (Blk.new w1 _ _) hi16 hsz (arr_one _) ?_; have hB3 := (Blk.new w1 50 (arr (List.replicate 16 0))).row (vs := arr (pad L)); have hb13 : Below w1.heap.size w1 ((w1.alloc (.cells (arr (List.replicate 16 0)) 50)).setRow w1.heap.size (arr (pad L))) := below_setRow' ((Below.refl _ _).alloc (Nat.le_refl _) _) (Nat.le_refl _) _; obtain ⟨w3, hw3⟩ : ∃ w3, w3 = (w1.alloc (.cells (#[.int .i64 0, .int .i64 0, .int .i64 0, .int .i64 0, .int .i64 0, .int .i64 0, .int .i64 0, .int .i64 0, .int .i64 0, .int .i64 0, .int .i64 0, .int .i64 0, .int .i64 0, .int .i64 0, .int .i64 0, .int .i64 0]) 50)).setRow w1.heap.size (arr (pad L)) := ⟨_, rfl⟩; rw [← hw3]; replace hB3 : Blk w3 w1.heap.size 50 (arr (pad L)) := hw3 ▸ hB3; replace hb13 : Below w1.heap.size w1 w3 := hw3 ▸ hb13; clear hw3; have hbB := hb1.trans (hb13.mono hzb1); have hb3x := hb0'.below hbB hb0'.lt; have hm1' : w3.cell? ⟨w.heap.size, 0, none⟩ = some (.slice a1 L.length c1) := hb3x.cell 0; have hm2' : w3.cell? ⟨w.heap.size, 1, none⟩ = some (.slice a2 bs.length c2) := hb3x.cell 1; have hbr3 := hbr0.below hbB hbr0.lt; have hbel3 := hA0.trans (hbB.mono (by omega)); have hw3s := hbel3.size)
        | (refine wpList_exec rfl (exec_build1 (u1 := .agg (arr (pad L))) (v := .agg Y) 53 (.tmp 27) rfl rfl (hB1' _)) ?_)
        | (refine wpList_load_row rfl 50 (.tmp 4) rfl w1.heap.size rfl 50 (arr (pad L)) (0, 0) _ hB3 hu rfl hi16 ?_)
        | (refine wpList_store_row rfl 53 (.tmp 6) (.tmp 28) rfl w3.heap.size rfl Y rfl 53 #[.int .i64 0, .int .i64 0, .int .i64 0, .int .i64 0, .int .i64 0, .int .i64 0, .int .i64 0, .int .i64 0, .int .i64 0, .int .i64 0, .int .i64 0, .int .i64 0, .int .i64 0, .int .i64 0, .int .i64 0, .int .i64 0, .bool false, .bool false, .bool false, .bool false, .bool false, .bool false, .bool false, .bool false, .bool false, .bool false, .bool false, .bool false, .bool false, .bool false, .bool false, .bool false] (Blk.new w3 _ _) hi0 hszY honeY ?_; have hB5 := (Blk.new w3 53 #[.int .i64 0, .int .i64 0, .int .i64 0, .int .i64 0, .int .i64 0, .int .i64 0, .int .i64 0, .int .i64 0, .int .i64 0, .int .i64 0, .int .i64 0, .int .i64 0, .int .i64 0, .int .i64 0, .int .i64 0, .int .i64 0, .bool false, .bool false, .bool false, .bool false, .bool false, .bool false, .bool false, .bool false, .bool false, .bool false, .bool false, .bool false, .bool false, .bool false, .bool false, .bool false]).row (vs := Y); have hb35 : Below w3.heap.size w3 ((w3.alloc (.cells #[.int .i64 0, .int .i64 0, .int .i64 0, .int .i64 0, .int .i64 0, .int .i64 0, .int .i64 0, .int .i64 0, .int .i64 0, .int .i64 0, .int .i64 0, .int .i64 0, .int .i64 0, .int .i64 0, .int .i64 0, .int .i64 0, .bool false, .bool false, .bool false, .bool false, .bool false, .bool false, .bool false, .bool false, .bool false, .bool false, .bool false, .bool false, .bool false, .bool false, .bool false, .bool false] 53)).setRow w3.heap.size Y) := below_setRow' ((Below.refl _ _).alloc (Nat.le_refl _) _) (Nat.le_refl _) _; obtain ⟨w5, hw5⟩ : ∃ w5, w5 = (w3.alloc (.cells #[.int .i64 0, .int .i64 0, .int .i64 0, .int .i64 0, .int .i64 0, .int .i64 0, .int .i64 0, .int .i64 0, .int .i64 0, .int .i64 0, .int .i64 0, .int .i64 0, .int .i64 0, .int .i64 0, .int .i64 0, .int .i64 0, .bool false, .bool false, .bool false, .bool false, .bool false, .bool false, .bool false, .bool false, .bool false, .bool false, .bool false, .bool false, .bool false, .bool false, .bool false, .bool false] 53)).setRow w3.heap.size Y := ⟨_, rfl⟩; rw [← hw5]; replace hB5 : Blk w5 w3.heap.size 53 Y := hw5 ▸ hB5; replace hb35 : Below w3.heap.size w3 w5 := hw5 ▸ hb35; clear hw5; have hb5x := hb3x.below hb35 hb3x.lt; have hm1q : w5.cell? ⟨w.heap.size, 0, none⟩ = some (.slice a1 L.length c1) := hb5x.cell 0; have hm2q : w5.cell? ⟨w.heap.size, 1, none⟩ = some (.slice a2 bs.length c2) := hb5x.cell 1; have hB3' := hB3.below hb35 hB3.lt; have hbr5 := hbr3.below hb35 hbr3.lt; have hbel5 := hbel3.trans (hb35.mono hbel3.size)))
      have hDne : w1.heap.size ≠ w3.heap.size := by have := hB3.lt; omega
      have hGne : w.heap.size + 1 ≠ w3.heap.size := by have := hbr3.lt; omega
      obtain ⟨G, hG⟩ : ∃ G, G = w3.heap.size := ⟨_, rfl⟩
      obtain ⟨D, hD⟩ : ∃ D, D = w1.heap.size := ⟨_, rfl⟩
      have hGw : w.heap.size ≤ G := by rw [hG]; exact hw3s
      rw [← hG] at hB5 hGne hDne ⊢
      rw [← hD] at hB3' hDne ⊢
      rw [HYY.out] at hB5
      have HR2 := Lib.hid hr2
      have HWs := Lib.hid hWs
      clear hb0' hA0 hbr0 hm1 hm2 hbB hb3x hm1' hm2' hbr3 hbel3 hw3s hb35 hb5x hm1q hm2q hB3 hb1 hb13 hr1 hr2 hzb1 hG hD hWs hi0 hszY hW
      have hA2 := Lib.hid (h2b)
      go_loopw [32] (fun i wr => ∃ k : Nat, k ≤ bs.length ∧ i = .int .i64 k ∧ Below w.heap.size w wr ∧ Blk wr (w.heap.size + 1) 53 #[.int .i64 0, .int .i64 0, .int .i64 0, .int .i64 0, .int .i64 0, .int .i64 0, .int .i64 0, .int .i64 0, .int .i64 0, .int .i64 0, .int .i64 0, .int .i64 0, .int .i64 0, .int .i64 0, .int .i64 0, .int .i64 0, .bool false, .bool false, .bool false, .bool false, .bool false, .bool false, .bool false, .bool false, .bool false, .bool false, .bool false, .bool false, .bool false, .bool false, .bool false, .bool false] ∧ Blk wr D 50 (arr (pad L)) ∧ Blk wr G 53 (mdA (pad L) (padB (bs.take k))) ∧ Hid (∀ j, j < k → mkC L bs j = true)) (fun i _ => 20 - (intOf i).toNat)
      case atStart => exact ⟨0, Nat.zero_le _, rfl, hbel5, hbr5, hB3', hB5, Lib.hid fun j hj => by omega⟩
      case round =>
        clear hbel5 hbr5 hB3' hB5
        obtain ⟨k, hk, rfl, hbel, hbr, hBD, hBG, HP⟩ := hrel
        by_cases hlt : k < bs.length
        · have hlt' : (k : Int) < (bs.length : Int) := by omega
          have hk16 : k < 16 := by omega
          have hk16' : (k : Int) < 16 := by omega
          obtain ⟨b2, o2, rfl, -, hc2⟩ := boolAt (hA2.out.below hbel) hlt
          have HMK : Hid (mkC L bs k = (!bs[k] || isC L k)) := Lib.hid (by unfold mkC; rw [List.getD_eq_getElem?_getD, List.getElem?_eq_getElem hlt]; rfl)
          have HCD : Hid (isCD (pad L) k = isC L k) := Lib.hid (by rw [isCD_pad HVT.out, if_pos (by have := HLEN.out; omega)])
          have HKL : Hid (k < L.length) := Lib.hid (by have := HLEN.out; omega)
          have hEl : (padB (bs.take k)).length = 16 := padB_len (by rw [List.length_take]; omega)
          have hcG : wr.cell? ⟨G, 16 + k, none⟩ = some (.bool ((padB (bs.take k))[k]'(by omega))) := by rw [hBG.cell (16 + k), mdA_bool _ _ HPL.out k (by omega)]
          have hfG : wr.frozen? ⟨G, 16 + k, none⟩ = false := hBG.free _
          have HSET := Lib.hid (padB_set hlt hk16)
          have hnext : ∀ (wq : World) (b : Bool), b = bs[k] → Blk wq G 53 (mdA (pad L) (padB (bs.take k))) → Blk (wq.setCell ⟨G, 16 + k, none⟩ (.bool b)) G 53 (mdA (pad L) (padB (bs.take (k + 1)))) := fun wq b hb h => by
            have e := h.set (16 + k) (.bool b)
            rw [mdA_set _ _ HPL.out] at e
            have e2 : (padB (bs.take k)).set k b = padB (bs.take (k + 1)) := by rw [hb]; exact HSET.out
            rw [e2] at e
            exact e
          have HNXT := Lib.hid hnext
          have HPJ : Hid (mkC L bs k = true → ∀ j, j < k + 1 → mkC L bs j = true) := Lib.hid (fun h j hj => by
            rcases Nat.lt_or_ge j k with h1 | h1
            · exact HP.out j h1
            · rw [show j = k by omega]; exact h)
          generalize (padB (bs.take k))[k]'_ = y at hcG
          clear hnext hEl
          obtain ⟨m, hm⟩ : ∃ m, m = bs[k] := ⟨_, rfl⟩
          rw [← hm] at hc2 HMK
          have HM := Lib.hid hm
          clear hm
          cases m with
          | false =>
            have HOK := Lib.hid (HPJ.out (by rw [HMK.out]; rfl))
            go_wp2_with fail
            go_roundw
            case rel => exact ⟨k + 1, by omega, by go_num, hbel.setCell hGw _, hbr.off hGne _, hBD.off hDne _, HNXT.out _ false HM.out hBG, HOK⟩
            case measure => simp [intOf]; omega
          | true =>
            have HIC := Lib.hid (fun w => isCorner_any (pad L) HPL.out k hk16 w)
            rw [HCD.out] at HIC
            obtain ⟨q, hq⟩ : ∃ q, q = isC L k := ⟨_, rfl⟩
            rw [← hq] at HIC HMK
            clear hq
            cases q with
            | false =>
              have HF : Hid (vmk L bs = false) := Lib.hid (vmk_badC HKL.out HMK.out)
              replace HZN := Lib.hid (HZN.out HF.out)
              go_wp2_with (first
                | (refine wpList_load_row_g rfl 50 (.tmp 4) rfl D rfl 50 (arr (pad L)) (0, 0) _ hBD hu rfl hi16 ?_)
                | (go_at_call 66; refine (HIC.out _).mono ?_; rintro e w9 ⟨rfl, hb9⟩; have hbr9 := hbr.below hb9 hbr.lt)
                | (refine wpList_store_row rfl 53 (.tmp 2) (.tmp 44) rfl (w.heap.size + 1) rfl #[.int .i64 0, .int .i64 0, .int .i64 0, .int .i64 0, .int .i64 0, .int .i64 0, .int .i64 0, .int .i64 0, .int .i64 0, .int .i64 0, .int .i64 0, .int .i64 0, .int .i64 0, .int .i64 0, .int .i64 0, .int .i64 0, .bool false, .bool false, .bool false, .bool false, .bool false, .bool false, .bool false, .bool false, .bool false, .bool false, .bool false, .bool false, .bool false, .bool false, .bool false, .bool false] rfl 53 _ hbr9 hiZ rfl honeZ ?_))
              refine bodyPost_ret (results_cell_tmp rfl _ _ (w.heap.size + 1) 53 #[.int .i64 0, .int .i64 0, .int .i64 0, .int .i64 0, .int .i64 0, .int .i64 0, .int .i64 0, .int .i64 0, .int .i64 0, .int .i64 0, .int .i64 0, .int .i64 0, .int .i64 0, .int .i64 0, .int .i64 0, .int .i64 0, .bool false, .bool false, .bool false, .bool false, .bool false, .bool false, .bool false, .bool false, .bool false, .bool false, .bool false, .bool false, .bool false, .bool false, .bool false, .bool false] (0, 0) _ rfl hbr9.row hum rfl hiZ) rfl ?_
              rw [HF.out, HZN.out.1, HZN.out.2]
              exact ⟨rfl, below_setRow' (hbel.trans (hb9.mono hbel.size)) (by omega) _⟩
            | true =>
              have HOK := Lib.hid (HPJ.out (by rw [HMK.out]; rfl))
              go_wp2_with (first
                | (refine wpList_load_row_g rfl 50 (.tmp 4) rfl D rfl 50 (arr (pad L)) (0, 0) _ hBD hu rfl hi16 ?_)
                | (go_at_call 66; refine (HIC.out _).mono ?_; rintro e w9 ⟨rfl, hb9⟩; have hcG9 : w9.cell? ⟨G, 16 + k, none⟩ = some (.bool y) := (hb9.cell (p := ⟨G, 16 + k, none⟩) hBG.lt).trans hcG; have hfG9 : w9.frozen? ⟨G, 16 + k, none⟩ = false := (hBG.below hb9 hBG.lt).free _; have hbr9 := hbr.below hb9 hbr.lt; have hBD9 := hBD.below hb9 hBD.lt; have hBG9 := hBG.below hb9 hBG.lt))
              go_roundw
              case rel => exact ⟨k + 1, by omega, by go_num, (hbel.trans (hb9.mono hbel.size)).setCell hGw _, hbr9.off hGne _, hBD9.off hDne _, HNXT.out _ true HM.out hBG9, HOK⟩
              case measure => simp [intOf]; omega
        · obtain rfl : k = bs.length := by omega
          have HV : Hid (vmk L bs = true) := Lib.hid (vmk_iff.2 ⟨HVT.out, HLEN.out, fun i hi => HP.out i (by have := HLEN.out; omega)⟩)
          have HMD := Lib.hid (md_yes HV.out)
          rw [List.take_of_length_le (Nat.le_refl _)] at hBG
          have hiQ := HIY.out bs.length hbl16
          rw [List.take_of_length_le (Nat.le_refl _)] at hiQ
          obtain ⟨Q, hQ⟩ : ∃ Q, Q = mdA (pad L) (padB bs) := ⟨_, rfl⟩
          have honeQ : ∀ v ∈ Q.toList, v.oneCell' = true := by rw [hQ]; exact mdA_one _ _
          rw [← hQ] at hBG hiQ
          have hszQ : Q.size = (#[.int .i64 0, .int .i64 0, .int .i64 0, .int .i64 0, .int .i64 0, .int .i64 0, .int .i64 0, .int .i64 0, .int .i64 0, .int .i64 0, .int .i64 0, .int .i64 0, .int .i64 0, .int .i64 0, .int .i64 0, .int .i64 0, .bool false, .bool false, .bool false, .bool false, .bool false, .bool false, .bool false, .bool false, .bool false, .bool false, .bool false, .bool false, .bool false, .bool false, .bool false, .bool false] : Array Value).size := by rw [hiZ] at hiQ; exact (Option.some.inj hiQ).symm
          have HQ := Lib.hid hQ
          clear hQ
          go_wp2_with (first
            | (refine wpList_load_row rfl 53 (.tmp 6) rfl G rfl 53 Q (0, 0) _ hBG hum rfl hiQ ?_)
            | (refine wpList_store_row rfl 53 (.tmp 2) (.tmp 50) rfl (w.heap.size + 1) rfl Q rfl 53 _ hbr hiQ hszQ honeQ ?_))
          refine bodyPost_ret (results_cell_tmp rfl _ _ (w.heap.size + 1) 53 Q (0, 0) _ rfl hbr.row hum rfl hiQ) rfl ?_
          rw [HV.out, HMD.out.1, HMD.out.2, ← HQ.out]
          exact ⟨rfl, below_setRow' hbel (by omega) _⟩
    · have hne : ((bs.length : Int) != (L.length : Int)) = true := by simpa using fun h => hlen (by omega)
      have HF : Hid (vmk L bs = false) := Lib.hid (vmk_badN hlen)
      replace HZN := Lib.hid (HZN.out HF.out)
      clear hlen
      go_enter Try.func40, Try.ntmps40
      go_wp2_with (first
        | (go_at_call 52; refine HDO2.out.mono ?_; rintro e w1 ⟨rfl, hb1⟩; have hzb1 := hb1.size)
        | (refine wpList_store_row rfl 50 (.tmp 4) (.tmp 13) rfl w1.heap.size rfl (arr (pad L)) rfl 50 (arr (List.replicate 16 0)) (Blk.new w1 _ _) hi16 hsz (arr_one _) ?_; have hB3 := (Blk.new w1 50 (arr (List.replicate 16 0))).row (vs := arr (pad L)); have hb13 : Below w1.heap.size w1 ((w1.alloc (.cells (arr (List.replicate 16 0)) 50)).setRow w1.heap.size (arr (pad L))) := below_setRow' ((Below.refl _ _).alloc (Nat.le_refl _) _) (Nat.le_refl _) _; obtain ⟨w3, hw3⟩ : ∃ w3, w3 = (w1.alloc (.cells (#[.int .i64 0, .int .i64 0, .int .i64 0, .int .i64 0, .int .i64 0, .int .i64 0, .int .i64 0, .int .i64 0, .int .i64 0, .int .i64 0, .int .i64 0, .int .i64 0, .int .i64 0, .int .i64 0, .int .i64 0, .int .i64 0]) 50)).setRow w1.heap.size (arr (pad L)) := ⟨_, rfl⟩; rw [← hw3]; replace hB3 : Blk w3 w1.heap.size 50 (arr (pad L)) := hw3 ▸ hB3; replace hb13 : Below w1.heap.size w1 w3 := hw3 ▸ hb13; clear hw3; have hbB := hb1.trans (hb13.mono hzb1); have hb3x := hb0'.below hbB hb0'.lt; have hm1' : w3.cell? ⟨w.heap.size, 0, none⟩ = some (.slice a1 L.length c1) := hb3x.cell 0; have hm2' : w3.cell? ⟨w.heap.size, 1, none⟩ = some (.slice a2 bs.length c2) := hb3x.cell 1; have hbr3 := hbr0.below hbB hbr0.lt; have hbel3 := hA0.trans (hbB.mono (by omega)); have hw3s := hbel3.size)
        | (refine wpList_store_row rfl 53 (.tmp 2) (.tmp 26) rfl (w.heap.size + 1) rfl #[.int .i64 0, .int .i64 0, .int .i64 0, .int .i64 0, .int .i64 0, .int .i64 0, .int .i64 0, .int .i64 0, .int .i64 0, .int .i64 0, .int .i64 0, .int .i64 0, .int .i64 0, .int .i64 0, .int .i64 0, .int .i64 0, .bool false, .bool false, .bool false, .bool false, .bool false, .bool false, .bool false, .bool false, .bool false, .bool false, .bool false, .bool false, .bool false, .bool false, .bool false, .bool false] rfl 53 _ hbr3 hiZ rfl honeZ ?_))
      refine bodyPost_ret (results_cell_tmp rfl _ _ (w.heap.size + 1) 53 #[.int .i64 0, .int .i64 0, .int .i64 0, .int .i64 0, .int .i64 0, .int .i64 0, .int .i64 0, .int .i64 0, .int .i64 0, .int .i64 0, .int .i64 0, .int .i64 0, .int .i64 0, .int .i64 0, .int .i64 0, .int .i64 0, .bool false, .bool false, .bool false, .bool false, .bool false, .bool false, .bool false, .bool false, .bool false, .bool false, .bool false, .bool false, .bool false, .bool false, .bool false, .bool false] (0, 0) _ rfl hbr3.row hum rfl hiZ) rfl ?_
      rw [HF.out, HZN.out.1, HZN.out.2]
      exact ⟨rfl, below_setRow' hbel3 (by omega) _⟩
end Go.Proofs.Ytbbbfaollcklkaa
