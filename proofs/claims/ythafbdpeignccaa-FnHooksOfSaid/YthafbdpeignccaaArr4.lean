/-
  Two rows of numbers in one value: built, compared, parted.
-/
import Derived.Test.YthafbdpeignccaaArr3
import Derived.Test.YthafbdpeignccaaW3
namespace Go.Proofs.Ythafbdpeignccaa
open Go.RowKit
set_option linter.unusedVariables false
set_option linter.unusedSimpArgs false
theorem run_equal_arrD {P : Program} {t e : TypeId} {n : Nat} {i : TypeInfo} (d : Nat) (ht : P.underlying t = some (.array n e)) (he : P.underlying e = some (.int .i64)) (hp : P.plainKey e = true) (hi : P.info? e = some i) (hc : P.cellsOf e = 1) (D E : List Int) (hD : D.length = n) (hE : E.length = n) (w : World) :
    (Op.equalIn (d + 1 + 1) t (.agg (arr D)) (.agg (arr E))).run P w = .ok (decide (D = E)) w := by
  rw [run_equalIn_array w (d + 1) (arr D) (arr E) ht hi, hc, run_eqItems_arr he hp d D E w _ (fun k hk => by simp at hk; omega), ← hD, all_getD_eq (by omega)]
theorem arr_ext0 (B A : List Int) (n : Nat) (hB : B.length = n) : (arr (B ++ A)).extract 0 n = arr B := by
  apply Array.toList_inj.1
  simp [arr, ints, ← hB]
theorem arr_ext1 (B A : List Int) (n m : Nat) (hB : B.length = n) (hA : A.length = m) : (arr (B ++ A)).extract n (n + m) = arr A := by
  apply Array.toList_inj.1
  simp only [arr, ints, ← hB, ← hA, List.map_append]
  simp
  exact List.take_of_length_le (by simp)

theorem T_info_bounds : (Try.prog.info? 99).map (·.size) = some 32 := by kernel_rfl
theorem T_isAgg_d (w : World) : (isAgg 59).run Try.prog w = .ok true w := by
  unfold isAgg
  rw [Sem.run_bind, run_underlying Try.underlying59 w]
  rfl
theorem T_part0 (B A : List Int) (hB : B.length = 16) (w : World) : (part 59 (arr (B ++ A)) 0).run Try.prog w = .ok (.agg (arr B)) w := by
  have hs : (sizeOf 59).run Try.prog w = .ok 16 w := by
    cases hq : Try.prog.info? 59 with
    | none => have := T_info35; rw [hq] at this; cases this
    | some i => have := T_info35; rw [hq] at this; simp [sizeOf, typeInfo, hq]; simpa using this
  simp only [part, Sem.run_bind, T_isAgg_d, Result.andThen_ok, if_true, hs, Sem.run_pure, Nat.zero_add]
  rw [arr_ext0 B A 16 hB]
theorem T_part1 (B A : List Int) (hB : B.length = 16) (hA : A.length = 16) (w : World) : (part 59 (arr (B ++ A)) 16).run Try.prog w = .ok (.agg (arr A)) w := by
  have hs : (sizeOf 59).run Try.prog w = .ok 16 w := by
    cases hq : Try.prog.info? 59 with
    | none => have := T_info35; rw [hq] at this; cases this
    | some i => have := T_info35; rw [hq] at this; simp [sizeOf, typeInfo, hq]; simpa using this
  simp only [part, Sem.run_bind, T_isAgg_d, Result.andThen_ok, if_true, hs, Sem.run_pure]
  rw [arr_ext1 B A 16 16 hB hA]
theorem T_eqD (d : Nat) (D E : List Int) (hD : D.length = 16) (hE : E.length = 16) (w : World) : (Op.equalIn (d + 1 + 1) 59 (.agg (arr D)) (.agg (arr E))).run Try.prog w = .ok (decide (D = E)) w := by
  obtain ⟨i, hi⟩ := info_of_underlying Try.underlying3
  exact run_equal_arrD d Try.underlying59 Try.underlying3 (by kernel_rfl) hi (by kernel_rfl) D E hD hE w
theorem T_fields : (Try.prog.fieldsOf 99).toList.map (fun f => (f.name, f.type, f.offset)) = [("below", 59, 0), ("above", 59, 16)] := by kernel_rfl
theorem T_eqb (B A E D : List Int) (hB : B.length = 16) (hA : A.length = 16) (hE : E.length = 16) (hD : D.length = 16) (w : World) :
    (Op.equalIn 10000 99 (.agg (arr (B ++ A))) (.agg (arr (E ++ D)))).run Try.prog w = .ok (decide (B = E) && decide (A = D)) w := by
  rw [show (10000 : Nat) = 9997 + 1 + 1 + 1 from rfl, run_equalIn_struct w (9997 + 1 + 1) 99 (arr (B ++ A)) (arr (E ++ D)) (by kernel_rfl) (by kernel_rfl)]
  have hf := T_fields
  generalize (Try.prog.fieldsOf 99).toList = fs at hf
  match fs, hf with
  | [], hf => simp at hf
  | [_], hf => simp at hf
  | _ :: _ :: _ :: _, hf => simp at hf
  | [f, g], hf =>
    simp only [List.map_cons, List.map_nil, List.cons.injEq, Prod.mk.injEq, and_true] at hf
    obtain ⟨⟨n1, t1, o1⟩, n2, t2, o2⟩ := hf
    have k1 : f.name ≠ "_" := by rw [n1]; decide
    have k2 : g.name ≠ "_" := by rw [n2]; decide
    simp only [Op.eqFields, if_pos k1, if_pos k2, Sem.run_bind, t1, t2, o1, o2, T_part0 B A hB, T_part0 E D hE, T_part1 B A hB hA, T_part1 E D hE hD, T_eqD 9997 B E hB hE, T_eqD 9997 A D hA hD, Result.andThen_ok]
    by_cases h1 : B = E
    · by_cases h2 : A = D
      · simp [h1, h2, T_eqD 9997 D D hD hD, T_part1 E D hE hD, Sem.run_bind]
      · simp [h1, h2, T_part1 E A hE hA, T_part1 E D hE hD, T_eqD 9997 A D hA hD, Sem.run_bind]
    · simp [h1]
theorem T_build0 (e0 e1 e2 e3 e4 e5 e6 e7 e8 e9 e10 e11 e12 e13 e14 e15 d0 d1 d2 d3 d4 d5 d6 d7 d8 d9 d10 d11 d12 d13 d14 d15 : Int) (w : World) : (Instr.build 99 #[(0, .agg (arr [e0, e1, e2, e3, e4, e5, e6, e7, e8, e9, e10, e11, e12, e13, e14, e15])), (1, .agg (arr [d0, d1, d2, d3, d4, d5, d6, d7, d8, d9, d10, d11, d12, d13, d14, d15]))]).run Try.prog w = .ok (.agg (arr ([e0, e1, e2, e3, e4, e5, e6, e7, e8, e9, e10, e11, e12, e13, e14, e15] ++ [d0, d1, d2, d3, d4, d5, d6, d7, d8, d9, d10, d11, d12, d13, d14, d15]))) w := by kernel_rfl
theorem T_build (E D : List Int) (hE : E.length = 16) (hD : D.length = 16) (w : World) :
    (Instr.build 99 #[(0, .agg (arr E)), (1, .agg (arr D))]).run Try.prog w = .ok (.agg (arr (E ++ D))) w := by
  match E, hE with
  | [e0, e1, e2, e3, e4, e5, e6, e7, e8, e9, e10, e11, e12, e13, e14, e15], _ =>
    match D, hD with
    | [d0, d1, d2, d3, d4, d5, d6, d7, d8, d9, d10, d11, d12, d13, d14, d15], _ => exact (T_build0 e0 e1 e2 e3 e4 e5 e6 e7 e8 e9 e10 e11 e12 e13 e14 e15 d0 d1 d2 d3 d4 d5 d6 d7 d8 d9 d10 d11 d12 d13 d14 d15 w)

theorem exec_build {P : Program} {ρ : Operand → Value} {o : Oper} {w : World} {v u1 u2 : Value} (t : TypeId) (x y : Operand) (ho : o.op = .build t #[(0, x), (1, y)]) (hx : ρ x = u1) (hy : ρ y = u2) (h : (Instr.build t #[(0, u1), (1, u2)]).run P w = .ok v w) :
    (execOp ρ o).run P w = .ok (.value v) w := by
  unfold execOp
  simp only [ho, Sem.run_bind, List.map_toArray, List.map_cons, List.map_nil, hx, hy]
  rw [h]
  rfl
theorem exec_eql {P : Program} {ρ : Operand → Value} {o : Oper} {w : World} {xs ys : Array Value} {r : Bool} (t T : TypeId) (x y : Operand) (ho : o.op = .binOp .eql t x y T) (hx : ρ x = .agg xs) (hy : ρ y = .agg ys) (hg : P.eqGuardType P.depth t = false)
    (h : (Op.equalIn 10000 t (.agg xs) (.agg ys)).run P w = .ok r w) : (execOp ρ o).run P w = .ok (.value (.bool r)) w := by
  have h1 : (eqGuard .eql t x y (.agg xs) (.agg ys)).run P w = .ok () w := by
    simp [eqGuard, Sem.run_bind, run_program, hg]
  have h2 : (binOp .eql t (.agg xs) (.agg ys)).run P w = .ok (.bool r) w := by
    have e : binOp .eql t (.agg xs) (.agg ys) = (do let b ← Op.equalIn 10000 t (.agg xs) (.agg ys); pure (Value.bool b)) := rfl
    rw [e, Sem.run_bind, h]
    rfl
  unfold execOp
  simp only [ho, hx, hy, Sem.run_bind, h1, Result.andThen_ok, h2]
  rfl
theorem T_field0 (B A : List Int) (hB : B.length = 16) (w : World) : (Instr.field 99 (.agg (arr (B ++ A))) 0).run Try.prog w = .ok (.agg (arr B)) w := by
  have hp := T_part0 B A hB
  simp [Instr.field, Sem.run_bind, run_underlying Try.underlying99, asAgg, hp]
theorem T_field1 (B A : List Int) (hB : B.length = 16) (hA : A.length = 16) (w : World) : (Instr.field 99 (.agg (arr (B ++ A))) 1).run Try.prog w = .ok (.agg (arr A)) w := by
  have hp := T_part1 B A hB hA
  simp [Instr.field, Sem.run_bind, run_underlying Try.underlying99, asAgg, hp]
end Go.Proofs.Ythafbdpeignccaa
