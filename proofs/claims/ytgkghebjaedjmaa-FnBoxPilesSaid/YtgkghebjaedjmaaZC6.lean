/-
  Walks of the program: two diagrams at once: of any parts, of parts that fit, of parts with one sum. A row loaded under a guard that holds. Arrays of numbers compared. Two rows of numbers in one value: built, compared, parted. Walks of the program: the bounds of two diagrams by their cells; one inside of another. Walks of the program: one inside of another. Plain mathematics of all piles with a sum. Slices whose elements are rows of so many whole numbers: a row of the call's own. What lies aside of some blocks stays.
-/
import Derived.Test.YtgkghebjaedjmaaZC1
import Derived.Test.YtgkghebjaedjmaaZC2
import Derived.Test.YtgkghebjaedjmaaZC3
import Derived.Test.YtgkghebjaedjmaaZC4
import Derived.Test.YtgkghebjaedjmaaZC5
import Derived.ChangeKeysEq
import Derived.Deep.MidRow
namespace Go.Proofs.Ytgkghebjaedjmaa
open Go.RowKit NP
set_option maxRecDepth 8000
set_option linter.unusedVariables false
set_option linter.unusedSimpArgs false

theorem results_2cells_tmp {P : Program} {fn : Func} {p1 p2 q : Tmp} {ty : TypeId} (h : fn.results = #[.cell p1 ty, .cell p2 ty, .tmp q]) (tmps : Array Value) (w : World) (g1 g2 : Nat) (c1 c2 : List Value) (d : TypeDesc)
    (hp1 : tmps.getD p1 undef = .pointer (some ⟨g1, 0, none⟩)) (hp2 : tmps.getD p2 undef = .pointer (some ⟨g2, 0, none⟩)) (h1 : w.rangeAt g1 0 c1) (h2 : w.rangeAt g2 0 c2)
    (hu : P.underlying ty = some d) (hd : d.isRow = true) (hi1 : (P.info? ty).map (·.size) = some c1.length) (hi2 : (P.info? ty).map (·.size) = some c2.length) :
    (results fn tmps).run P w = .ok (.tuple #[.agg c1.toArray, .agg c2.toArray, tmps.getD q undef]) w := by
  have hp1' : tmps[p1]?.getD undef = .pointer (some ⟨g1, 0, none⟩) := by simpa using hp1
  have hp2' : tmps[p2]?.getD undef = .pointer (some ⟨g2, 0, none⟩) := by simpa using hp2
  simp [results, h, hp1', hp2', asAddr, run_loadVar_mid w g1 0 ty c1 d h1 hu hd hi1, run_loadVar_mid w g2 0 ty c2 d h2 hu hd hi2]
theorem Blk.there {w : World} {g : Nat} {t : TypeId} {cs : Array Value} (h : Blk w g t cs) : w.there g 0 cs.size := fun j hj => by
  rw [Nat.zero_add, h.cell j]
  exact ⟨by simp [hj], h.free j⟩
theorem there_below {w w' : World} {b o n : Nat} (h : w.there b o n) (hb : Below w.heap.size w w') : w'.there b o n := fun j hj => by
  obtain ⟨h1, h2⟩ := h j hj
  obtain ⟨v, hv⟩ := Option.isSome_iff_exists.1 h1
  have hlt := World.block_lt_of_cell? w _ hv
  exact ⟨by rw [hb.cell (p := ⟨b, o + j, none⟩) hlt]; exact h1, by rw [hb.frozen (p := ⟨b, o + j, none⟩) hlt]; exact h2⟩
theorem below_setCells {B b : Nat} (hb : B ≤ b) : ∀ (vs : List Value) (o : Nat) (w0 w : World), Below B w0 w → Below B w0 (w.setCells b o vs)
  | [], _, _, _, h => h
  | v :: r, o, w0, w, h => by
    rw [World.setCells]
    exact below_setCells hb r (o + 1) w0 _ (h.setCell (by show B ≤ b; exact hb) v)
theorem two_rows (w1 : World) (t : TypeId) (Z X Y : Array Value) : Blk ((((w1.alloc (.cells Z t)).alloc (.cells Z t)).setRow w1.heap.size X).setRow (w1.heap.size + 1) Y) w1.heap.size t X ∧ Blk ((((w1.alloc (.cells Z t)).alloc (.cells Z t)).setRow w1.heap.size X).setRow (w1.heap.size + 1) Y) (w1.heap.size + 1) t Y ∧ Below w1.heap.size w1 ((((w1.alloc (.cells Z t)).alloc (.cells Z t)).setRow w1.heap.size X).setRow (w1.heap.size + 1) Y) := by
  have a1 : Blk (w1.alloc (.cells Z t)) w1.heap.size t Z := Blk.new w1 t Z
  have a2 := Blk.new (w1.alloc (.cells Z t)) t Z
  rw [World.size_alloc] at a2
  exact ⟨((a1.alloc _).row).rowOff (by omega), ((a2.rowOff (by omega)).row), below_setRow' (below_setRow' (((Below.refl _ _).alloc (Nat.le_refl _) _).alloc (by simp) _) (Nat.le_refl _) _) (by omega) _⟩
theorem first_row (w1 : World) (t : TypeId) (Z X : Array Value) : Blk (((w1.alloc (.cells Z t)).alloc (.cells Z t)).setRow w1.heap.size X) (w1.heap.size + 1) t Z := by
  have a2 := Blk.new (w1.alloc (.cells Z t)) t Z
  rw [World.size_alloc] at a2
  exact a2.rowOff (by omega)
theorem dg_fits {L : List Int} (h : valid L = true) : sumFits (dg L) := by rw [dg_yes h]; exact pad_fits h
theorem dg_sum {L : List Int} (h : valid L = true) : sumL (dg L) = sumL L := by rw [dg_yes h, sumL_pad]



def oneS (P Q : List Int) : Bool := valid P && valid Q && (sumL P == sumL Q)
end Go.Proofs.Ytgkghebjaedjmaa
namespace Go.Proofs.Ytgkghebjaedjmaa
open Go.RowKit
theorem wpList_load_row_g {P : Program} {ops : Array Oper} {rest : List Oper} {o : Oper} {a : Act} {w : World} {Q : Exit → Act → World → Prop} (hgd : Region.wanted o (yielded ops a.tmps) = true) (ty : TypeId) (x : Operand) (ho : o.op = .load ty x)
    (g : Nat) (hx : a.eval x = .pointer (some ⟨g, 0, none⟩)) (t : TypeId) (cs : Array Value) (fr : Nat × Nat) (d : TypeDesc) (hg : w.heap[g]? = some (.cells cs t fr))
    (hu : P.underlying ty = some d) (hd : (match d with | .struct _ | .array _ _ => true | _ => false) = true) (hi : (P.info? ty).map (·.size) = some cs.size)
    (h : wpList P ops Q rest (a.put o.dst (.agg cs)) w) : wpList P ops Q (o :: rest) a w :=
  wpList_step fun K hK => by
    rw [if_pos hgd]
    exact wp_load_row ty x ho g hx t cs fr d hg hu hd hi (hK _ _ h)
end Go.Proofs.Ytgkghebjaedjmaa
namespace Go.Proofs.Ytgkghebjaedjmaa
open Go.RowKit
theorem run_eqItems_arr {P : Program} {e : TypeId} (he : P.underlying e = some (.int .i64)) (hp : P.plainKey e = true) (d : Nat) (D E : List Int) (w : World) :
    ∀ l : List Nat, (∀ k ∈ l, k < D.length ∧ k < E.length) → (Op.eqItems (d + 1) e 1 (arr D) (arr E) l).run P w = .ok (l.all fun k => D.getD k 0 == E.getD k 0) w
  | [], _ => by simp [Op.eqItems]
  | k :: l, h => by
    obtain ⟨h1, h2⟩ := h k (by simp)
    have ih := run_eqItems_arr he hp d D E w l fun j hj => h j (by simp [hj])
    have p1 : (part e (arr D) (k * 1)).run P w = .ok (.int .i64 D[k]) w := run_part_plain w hp (by rw [Nat.mul_one]; exact arr_get D k h1)
    have p2 : (part e (arr E) (k * 1)).run P w = .ok (.int .i64 E[k]) w := run_part_plain w hp (by rw [Nat.mul_one]; exact arr_get E k h2)
    have p3 := run_equalIn_int (P := P) w d e .i64 .i64 D[k] E[k] he
    have g1 : D.getD k 0 = D[k] := by rw [List.getD_eq_getElem?_getD, List.getElem?_eq_getElem h1]; rfl
    have g2 : E.getD k 0 = E[k] := by rw [List.getD_eq_getElem?_getD, List.getElem?_eq_getElem h2]; rfl
    simp only [Op.eqItems, Sem.run_bind, p1, p2, p3, Result.andThen_ok, List.all_cons, g1, g2]
    cases hq : (D[k] == E[k])
    · simp
    · simpa using ih
theorem all_getD_eq {D E : List Int} (h : D.length = E.length) : ((List.range D.length).all fun k => D.getD k 0 == E.getD k 0) = decide (D = E) := by
  rw [Bool.eq_iff_iff, List.all_eq_true, decide_eq_true_eq]
  constructor
  · intro hh
    apply List.ext_getElem h
    intro i h1 h2
    have := hh i (by simpa using h1)
    rw [List.getD_eq_getElem?_getD, List.getElem?_eq_getElem h1, List.getD_eq_getElem?_getD, List.getElem?_eq_getElem h2] at this
    simpa using this
  · rintro rfl k _
    simp
theorem run_equal_arr {P : Program} {t e : TypeId} {n : Nat} {i : TypeInfo} (ht : P.underlying t = some (.array n e)) (he : P.underlying e = some (.int .i64)) (hp : P.plainKey e = true) (hi : P.info? e = some i) (hc : P.cellsOf e = 1) (D E : List Int) (hD : D.length = n) (hE : E.length = n) (w : World) :
    (Op.equalIn 10000 t (.agg (arr D)) (.agg (arr E))).run P w = .ok (decide (D = E)) w := by
  rw [show (10000 : Nat) = 9998 + 1 + 1 from rfl, run_equalIn_array w (9998 + 1) (arr D) (arr E) ht hi, hc, run_eqItems_arr he hp 9998 D E w _ (fun k hk => by simp at hk; omega), ← hD, all_getD_eq (by omega)]
end Go.Proofs.Ytgkghebjaedjmaa
namespace Go.Proofs.Ytgkghebjaedjmaa
open Go.RowKit
set_option linter.unusedVariables false
set_option linter.unusedSimpArgs false
theorem run_equal_arrD {P : Program} {t e : TypeId} {n : Nat} {i : TypeInfo} (d : Nat) (ht : P.underlying t = some (.array n e)) (he : P.underlying e = some (.int .i64)) (hp : P.plainKey e = true) (hi : P.info? e = some i) (hc : P.cellsOf e = 1) (D E : List Int) (hD : D.length = n) (hE : E.length = n) (w : World) :
    (Op.equalIn (d + 1 + 1) t (.agg (arr D)) (.agg (arr E))).run P w = .ok (decide (D = E)) w := by
  rw [run_equalIn_array w (d + 1) (arr D) (arr E) ht hi, hc, run_eqItems_arr he hp d D E w _ (fun k hk => by simp at hk; omega), ← hD, all_getD_eq (by omega)]
theorem arr_ext0 (B A : List Int) (n : Nat) (hB : B.length = n) : (arr (B ++ A)).extract 0 n = arr B := by
  apply Array.toList_inj.1
  simp [arr, ints, ← hB]
theorem arr_ext1 (B A : List Int) (n m : Nat) (hB : B.length = n) (hA : A.length = m) : (arr (B ++ A)).extract n (n + m) = arr A := by
  apply Array.toList_inj.1
  simp only [arr, ints, ← hB, ← hA, List.map_append]
  simp
  exact List.take_of_length_le (by simp)

theorem T_info_bounds : (Try.prog.info? 123).map (·.size) = some 32 := by kernel_rfl
theorem T_isAgg_d (w : World) : (isAgg 60).run Try.prog w = .ok true w := by
  unfold isAgg
  rw [Sem.run_bind, run_underlying Try.underlying60 w]
  rfl
theorem T_part0 (B A : List Int) (hB : B.length = 16) (w : World) : (part 60 (arr (B ++ A)) 0).run Try.prog w = .ok (.agg (arr B)) w := by
  have hs : (sizeOf 60).run Try.prog w = .ok 16 w := by
    cases hq : Try.prog.info? 60 with
    | none => have := T_info35; rw [hq] at this; cases this
    | some i => have := T_info35; rw [hq] at this; simp [sizeOf, typeInfo, hq]; simpa using this
  simp only [part, Sem.run_bind, T_isAgg_d, Result.andThen_ok, if_true, hs, Sem.run_pure, Nat.zero_add]
  rw [arr_ext0 B A 16 hB]
theorem T_part1 (B A : List Int) (hB : B.length = 16) (hA : A.length = 16) (w : World) : (part 60 (arr (B ++ A)) 16).run Try.prog w = .ok (.agg (arr A)) w := by
  have hs : (sizeOf 60).run Try.prog w = .ok 16 w := by
    cases hq : Try.prog.info? 60 with
    | none => have := T_info35; rw [hq] at this; cases this
    | some i => have := T_info35; rw [hq] at this; simp [sizeOf, typeInfo, hq]; simpa using this
  simp only [part, Sem.run_bind, T_isAgg_d, Result.andThen_ok, if_true, hs, Sem.run_pure]
  rw [arr_ext1 B A 16 16 hB hA]
theorem T_eqD (d : Nat) (D E : List Int) (hD : D.length = 16) (hE : E.length = 16) (w : World) : (Op.equalIn (d + 1 + 1) 60 (.agg (arr D)) (.agg (arr E))).run Try.prog w = .ok (decide (D = E)) w := by
  obtain ⟨i, hi⟩ := info_of_underlying Try.underlying3
  exact run_equal_arrD d Try.underlying60 Try.underlying3 (by kernel_rfl) hi (by kernel_rfl) D E hD hE w
theorem T_fields : (Try.prog.fieldsOf 123).toList.map (fun f => (f.name, f.type, f.offset)) = [("below", 60, 0), ("above", 60, 16)] := by kernel_rfl
theorem T_eqb (B A E D : List Int) (hB : B.length = 16) (hA : A.length = 16) (hE : E.length = 16) (hD : D.length = 16) (w : World) :
    (Op.equalIn 10000 123 (.agg (arr (B ++ A))) (.agg (arr (E ++ D)))).run Try.prog w = .ok (decide (B = E) && decide (A = D)) w := by
  rw [show (10000 : Nat) = 9997 + 1 + 1 + 1 from rfl, run_equalIn_struct w (9997 + 1 + 1) 123 (arr (B ++ A)) (arr (E ++ D)) (by kernel_rfl) (by kernel_rfl)]
  have hf := T_fields
  generalize (Try.prog.fieldsOf 123).toList = fs at hf
  match fs, hf with
  | [], hf => simp at hf
  | [_], hf => simp at hf
  | _ :: _ :: _ :: _, hf => simp at hf
  | [f, g], hf =>
    simp only [List.map_cons, List.map_nil, List.cons.injEq, Prod.mk.injEq, and_true] at hf
    obtain ⟨⟨n1, t1, o1⟩, n2, t2, o2⟩ := hf
    have k1 : f.name ≠ "_" := by rw [n1]; decide
    have k2 : g.name ≠ "_" := by rw [n2]; decide
    simp only [Op.eqFields, if_pos k1, if_pos k2, Sem.run_bind, t1, t2, o1, o2, T_part0 B A hB, T_part0 E D hE, T_part1 B A hB hA, T_part1 E D hE hD, T_eqD 9997 B E hB hE, T_eqD 9997 A D hA hD, Result.andThen_ok]
    by_cases h1 : B = E
    · by_cases h2 : A = D
      · simp [h1, h2, T_eqD 9997 D D hD hD, T_part1 E D hE hD, Sem.run_bind]
      · simp [h1, h2, T_part1 E A hE hA, T_part1 E D hE hD, T_eqD 9997 A D hA hD, Sem.run_bind]
    · simp [h1]
theorem T_build0 (e0 e1 e2 e3 e4 e5 e6 e7 e8 e9 e10 e11 e12 e13 e14 e15 d0 d1 d2 d3 d4 d5 d6 d7 d8 d9 d10 d11 d12 d13 d14 d15 : Int) (w : World) : (Instr.build 123 #[(0, .agg (arr [e0, e1, e2, e3, e4, e5, e6, e7, e8, e9, e10, e11, e12, e13, e14, e15])), (1, .agg (arr [d0, d1, d2, d3, d4, d5, d6, d7, d8, d9, d10, d11, d12, d13, d14, d15]))]).run Try.prog w = .ok (.agg (arr ([e0, e1, e2, e3, e4, e5, e6, e7, e8, e9, e10, e11, e12, e13, e14, e15] ++ [d0, d1, d2, d3, d4, d5, d6, d7, d8, d9, d10, d11, d12, d13, d14, d15]))) w := by kernel_rfl
theorem T_build (E D : List Int) (hE : E.length = 16) (hD : D.length = 16) (w : World) :
    (Instr.build 123 #[(0, .agg (arr E)), (1, .agg (arr D))]).run Try.prog w = .ok (.agg (arr (E ++ D))) w := by
  match E, hE with
  | [e0, e1, e2, e3, e4, e5, e6, e7, e8, e9, e10, e11, e12, e13, e14, e15], _ =>
    match D, hD with
    | [d0, d1, d2, d3, d4, d5, d6, d7, d8, d9, d10, d11, d12, d13, d14, d15], _ => exact (T_build0 e0 e1 e2 e3 e4 e5 e6 e7 e8 e9 e10 e11 e12 e13 e14 e15 d0 d1 d2 d3 d4 d5 d6 d7 d8 d9 d10 d11 d12 d13 d14 d15 w)

theorem exec_build {P : Program} {ρ : Operand → Value} {o : Oper} {w : World} {v u1 u2 : Value} (t : TypeId) (x y : Operand) (ho : o.op = .build t #[(0, x), (1, y)]) (hx : ρ x = u1) (hy : ρ y = u2) (h : (Instr.build t #[(0, u1), (1, u2)]).run P w = .ok v w) :
    (execOp ρ o).run P w = .ok (.value v) w := by
  unfold execOp
  simp only [ho, Sem.run_bind, List.map_toArray, List.map_cons, List.map_nil, hx, hy]
  rw [h]
  rfl
theorem exec_eql {P : Program} {ρ : Operand → Value} {o : Oper} {w : World} {xs ys : Array Value} {r : Bool} (t T : TypeId) (x y : Operand) (ho : o.op = .binOp .eql t x y T) (hx : ρ x = .agg xs) (hy : ρ y = .agg ys) (hg : P.eqGuardType P.depth t = false)
    (h : (Op.equalIn 10000 t (.agg xs) (.agg ys)).run P w = .ok r w) : (execOp ρ o).run P w = .ok (.value (.bool r)) w := by
  have h1 : (eqGuard .eql t x y (.agg xs) (.agg ys)).run P w = .ok () w := by
    simp [eqGuard, Sem.run_bind, run_program, hg]
  have h2 : (binOp .eql t (.agg xs) (.agg ys)).run P w = .ok (.bool r) w := by
    have e : binOp .eql t (.agg xs) (.agg ys) = (do let b ← Op.equalIn 10000 t (.agg xs) (.agg ys); pure (Value.bool b)) := rfl
    rw [e, Sem.run_bind, h]
    rfl
  unfold execOp
  simp only [ho, hx, hy, Sem.run_bind, h1, Result.andThen_ok, h2]
  rfl
theorem T_field0 (B A : List Int) (hB : B.length = 16) (w : World) : (Instr.field 123 (.agg (arr (B ++ A))) 0).run Try.prog w = .ok (.agg (arr B)) w := by
  have hp := T_part0 B A hB
  simp [Instr.field, Sem.run_bind, run_underlying Try.underlying123, asAgg, hp]
theorem T_field1 (B A : List Int) (hB : B.length = 16) (hA : A.length = 16) (w : World) : (Instr.field 123 (.agg (arr (B ++ A))) 1).run Try.prog w = .ok (.agg (arr A)) w := by
  have hp := T_part1 B A hB hA
  simp [Instr.field, Sem.run_bind, run_underlying Try.underlying123, asAgg, hp]
end Go.Proofs.Ytgkghebjaedjmaa
namespace Go.Proofs.Ytgkghebjaedjmaa
open Go.RowKit NP
set_option maxRecDepth 8000
set_option linter.unusedVariables false
set_option linter.unusedSimpArgs false
def bcm (D E : List Int) (i : Nat) : List Int := (List.range 32).map fun q => if q < 16 then (if q < i then lo2 D E q else 0) else (if q - 16 < i then hi2 D E (q - 16) else 0)
theorem bcm_len (D E : List Int) (i : Nat) : (bcm D E i).length = 32 := by simp [bcm]
theorem bcm_get (D E : List Int) (i q : Nat) (h : q < (bcm D E i).length) : (bcm D E i)[q] = if q < 16 then (if q < i then lo2 D E q else 0) else (if q - 16 < i then hi2 D E (q - 16) else 0) := by simp [bcm]
theorem bcm_zero (D E : List Int) : bcm D E 0 = List.replicate 32 0 := by simp [bcm]; rfl
theorem bcm_set (D E : List Int) (i : Nat) (hi : i < 16) : ((bcm D E i).set i (lo2 D E i)).set (16 + i) (hi2 D E i) = bcm D E (i + 1) := by
  apply List.ext_getElem
  · rw [List.length_set, List.length_set, bcm_len, bcm_len]
  · intro q h1 h2
    rw [bcm_get]
    by_cases e1 : 16 + i = q
    · subst e1
      rw [List.getElem_set_self, if_neg (by omega), if_pos (by omega)]
      congr 1
      omega
    · rw [List.getElem_set_ne e1]
      by_cases e2 : i = q
      · subst e2
        rw [List.getElem_set_self, if_pos hi, if_pos (by omega)]
      · rw [List.getElem_set_ne e2, bcm_get]
        (repeat' split) <;> first | rfl | omega
theorem bcm_end (D E : List Int) : bcm D E 16 = (List.range 16).map (lo2 D E) ++ (List.range 16).map (hi2 D E) := by
  apply List.ext_getElem
  · rw [bcm_len]; simp
  · intro q h1 h2
    rw [bcm_get]
    rw [bcm_len] at h1
    by_cases hq : q < 16
    · rw [if_pos hq, if_pos hq, List.getElem_append_left (by simpa using hq)]; simp
    · rw [if_neg hq, if_pos (by omega), List.getElem_append_right (by simp; omega)]; simp

set_option maxHeartbeats 2000000 in
theorem byCells_any (D E : List Int) (hD : D.length = 16) (hE : E.length = 16) (w : World) :
    Calls Try.prog 98 #[.agg (arr D), .agg (arr E)] w fun e w' => e = .returned (.agg (arr ((List.range 16).map (lo2 D E) ++ (List.range 16).map (hi2 D E)))) ∧ Below w.heap.size w w' := by
  have HD := Lib.hid hD
  have HE := Lib.hid hE
  have hd16 : 16 ≤ D.length := by omega
  have he16 : 16 ≤ E.length := by omega
  clear hD hE
  obtain ⟨wA, hwA⟩ : ∃ wA, wA = (((w.alloc (.cells (arr D) 60)).alloc (.cells (arr E) 60)).alloc (.cells (arr (List.replicate 32 0)) 123)).alloc (.cells (arr (List.replicate 32 0)) 123) := ⟨_, rfl⟩
  have hA2 : Blk wA w.heap.size 60 (arr D) := by rw [hwA]; exact (((Blk.new w 60 (arr D)).alloc _).alloc _).alloc _
  have hA3 : Blk wA (w.heap.size + 1) 60 (arr E) := by
    rw [hwA]
    have e := ((Blk.new (w.alloc (.cells (arr D) 60)) 60 (arr E)).alloc (.cells (arr (List.replicate 32 0)) 123)).alloc (.cells (arr (List.replicate 32 0)) 123)
    rw [World.size_alloc] at e
    exact e
  have hA4 : Blk wA (w.heap.size + 2) 123 (arr (List.replicate 32 0)) := by
    rw [hwA]
    have e := (Blk.new ((w.alloc (.cells (arr D) 60)).alloc (.cells (arr E) 60)) 123 (arr (List.replicate 32 0))).alloc (.cells (arr (List.replicate 32 0)) 123)
    rw [World.size_alloc, World.size_alloc] at e
    exact e
  have hA5 : Blk wA (w.heap.size + 3) 123 (arr (List.replicate 32 0)) := by
    rw [hwA]
    have e := Blk.new (((w.alloc (.cells (arr D) 60)).alloc (.cells (arr E) 60)).alloc (.cells (arr (List.replicate 32 0)) 123)) 123 (arr (List.replicate 32 0))
    rw [World.size_alloc, World.size_alloc, World.size_alloc] at e
    exact e
  have hAb : Below w.heap.size w wA := by rw [hwA]; exact ((((Below.refl _ _).alloc (Nat.le_refl _) _).alloc (by simp) _).alloc (by simp; omega) _).alloc (by simp; omega) _
  go_enter Try.func98, Try.ntmps98
  go_wp2_with fail
  go_loopw [7] (fun i wr => ∃ k : Nat, k ≤ 16 ∧ i = .int .i64 k ∧ Below w.heap.size w wr ∧ Blk wr w.heap.size 60 (arr D) ∧ Blk wr (w.heap.size + 1) 60 (arr E) ∧ Blk wr (w.heap.size + 2) 123 (arr (List.replicate 32 0)) ∧ Blk wr (w.heap.size + 3) 123 (arr (bcm D E k))) (fun i _ => 16 - (intOf i).toNat)
  case atStart =>
    refine ⟨0, Nat.zero_le _, rfl, ?_⟩
    rw [bcm_zero]
    rw [hwA] at hAb hA2 hA3 hA4 hA5
    exact ⟨hAb, hA2, hA3, hA4, hA5⟩
  case round =>
    obtain ⟨k, hk, rfl, hbel, h2, h3, h4, h5⟩ := hrel
    clear hA2 hA3 hA4 hA5 hAb
    by_cases hlt : k < 16
    · have hkD : k < D.length := by omega
      have hkE : k < E.length := by omega
      have hc1 : wr.cell? ⟨w.heap.size, k, none⟩ = some (.int .i64 D[k]) := by rw [h2.cell k, arr_get _ k hkD]
      have hc2 : wr.cell? ⟨w.heap.size + 1, k, none⟩ = some (.int .i64 E[k]) := by rw [h3.cell k, arr_get _ k hkE]
      have hlt' : (k : Int) < 16 := by omega
      have HS := Lib.hid (bcm_set D E k hlt)
      have hmn : (if E[k] < D[k] then E[k] else D[k]) = lo2 D E k := by
        unfold lo2; rw [getD_lt hkD, getD_lt hkE]; split <;> omega
      have hmx : (if D[k] < E[k] then E[k] else D[k]) = hi2 D E k := by
        unfold hi2; rw [getD_lt hkD, getD_lt hkE]; split <;> omega
      have hc5 : wr.cell? ⟨w.heap.size + 3, k, none⟩ = some ((arr (bcm D E k))[k]?.getD undef) := by
        rw [h5.cell k]
        have : k < (arr (bcm D E k)).size := by rw [arr_size, bcm_len]; omega
        simp [this]
      have hf5 : wr.frozen? ⟨w.heap.size + 3, k, none⟩ = false := h5.free k
      generalize D[k] = x at *
      generalize E[k] = y at *
      generalize lo2 D E k = m1 at *
      generalize hi2 D E k = m2 at *
      generalize ((arr (bcm D E k))[k]?.getD undef) = old at *
      go_wp2
      go_still_tail 10, (by kernel_rfl)
      change wpList _ _ _ _ _ wr.drew
      replace hbel : Below w.heap.size w wr.drew := hbel.trans ((Dr.n wr 1).below _)
      replace h2 : Blk wr.drew w.heap.size 60 (arr D) := h2
      replace h3 : Blk wr.drew (w.heap.size + 1) 60 (arr E) := h3
      replace h4 : Blk wr.drew (w.heap.size + 2) 123 (arr (List.replicate 32 0)) := h4
      replace h5 : Blk wr.drew (w.heap.size + 3) 123 (arr (bcm D E k)) := h5
      replace hf5 : wr.drew.frozen? ⟨w.heap.size + 3, k, none⟩ = false := hf5
      replace hc1 : wr.drew.cell? ⟨w.heap.size, k, none⟩ = some (.int .i64 x) := hc1
      replace hc2 : wr.drew.cell? ⟨w.heap.size + 1, k, none⟩ = some (.int .i64 y) := hc2
      replace hc5 : wr.drew.cell? ⟨w.heap.size + 3, k, none⟩ = some old := hc5
      generalize wr.drew = w2 at *
      go_wp2_with fail
      have g1 : Below w.heap.size w (w2.setCell ⟨w.heap.size + 3, k, none⟩ (.int .i64 m1)) := hbel.setCell (by show w.heap.size ≤ w.heap.size + 3; omega) _
      have g2 : Blk (w2.setCell ⟨w.heap.size + 3, k, none⟩ (.int .i64 m1)) w.heap.size 60 (arr D) := h2.off (by show w.heap.size ≠ w.heap.size + 3; omega) _
      have g3 : Blk (w2.setCell ⟨w.heap.size + 3, k, none⟩ (.int .i64 m1)) (w.heap.size + 1) 60 (arr E) := h3.off (by show w.heap.size + 1 ≠ w.heap.size + 3; omega) _
      have g4 : Blk (w2.setCell ⟨w.heap.size + 3, k, none⟩ (.int .i64 m1)) (w.heap.size + 2) 123 (arr (List.replicate 32 0)) := h4.off (by show w.heap.size + 2 ≠ w.heap.size + 3; omega) _
      have g5 := h5.set k (.int .i64 m1)
      rw [arr_set] at g5
      have gc1 : (w2.setCell ⟨w.heap.size + 3, k, none⟩ (.int .i64 m1)).cell? ⟨w.heap.size, k, none⟩ = some (.int .i64 x) := by rw [g2.cell k, ← h2.cell k]; exact hc1
      have gc2 : (w2.setCell ⟨w.heap.size + 3, k, none⟩ (.int .i64 m1)).cell? ⟨w.heap.size + 1, k, none⟩ = some (.int .i64 y) := by rw [g3.cell k, ← h3.cell k]; exact hc2
      have gf5 := g5.free (16 + k)
      have gc5 : (w2.setCell ⟨w.heap.size + 3, k, none⟩ (.int .i64 m1)).cell? ⟨w.heap.size + 3, 16 + k, none⟩ = some ((arr ((bcm D E k).set k m1))[16 + k]?.getD undef) := by
        rw [g5.cell (16 + k)]
        have : 16 + k < (arr ((bcm D E k).set k m1)).size := by rw [arr_size, List.length_set, bcm_len]; omega
        simp [this]
      generalize ((arr ((bcm D E k).set k m1))[16 + k]?.getD undef) = old2 at *
      clear hbel h2 h3 h4 h5 hf5 hc1 hc2 hc5
      generalize w2.setCell ⟨w.heap.size + 3, k, none⟩ (.int .i64 m1) = wr at *
      go_still_tail 10, (by kernel_rfl)
      change wpList _ _ _ _ _ wr.drew
      replace g1 : Below w.heap.size w wr.drew := g1.trans ((Dr.n wr 1).below _)
      replace g2 : Blk wr.drew w.heap.size 60 (arr D) := g2
      replace g3 : Blk wr.drew (w.heap.size + 1) 60 (arr E) := g3
      replace g4 : Blk wr.drew (w.heap.size + 2) 123 (arr (List.replicate 32 0)) := g4
      replace g5 : Blk wr.drew (w.heap.size + 3) 123 (arr ((bcm D E k).set k m1)) := g5
      replace gf5 : wr.drew.frozen? ⟨w.heap.size + 3, 16 + k, none⟩ = false := gf5
      replace gc1 : wr.drew.cell? ⟨w.heap.size, k, none⟩ = some (.int .i64 x) := gc1
      replace gc2 : wr.drew.cell? ⟨w.heap.size + 1, k, none⟩ = some (.int .i64 y) := gc2
      replace gc5 : wr.drew.cell? ⟨w.heap.size + 3, 16 + k, none⟩ = some old2 := gc5
      generalize wr.drew = w3 at *
      go_wp2_with fail
      go_roundw
      case rel =>
        refine ⟨k + 1, by omega, by go_num, g1.setCell (by show w.heap.size ≤ w.heap.size + 3; omega) _, g2.off (by show w.heap.size ≠ w.heap.size + 3; omega) _, g3.off (by show w.heap.size + 1 ≠ w.heap.size + 3; omega) _, g4.off (by show w.heap.size + 2 ≠ w.heap.size + 3; omega) _, ?_⟩
        have e := g5.set (16 + k) (.int .i64 m2)
        rw [arr_set, HS.out] at e
        exact e
      case measure => simp [intOf]; omega
    · obtain rfl : k = 16 := by omega
      have HN := Lib.hid (bcm_end D E)
      have hi2 : (Try.prog.info? 123).map (·.size) = some (arr (bcm D E 16)).size := by rw [arr_size, bcm_len]; exact T_info_bounds
      have hsz : (arr (bcm D E 16)).size = (arr (List.replicate 32 0)).size := by rw [arr_size, arr_size, bcm_len]; rfl
      go_wp2_with (first | (refine wpList_load_row rfl 123 (.tmp 5) rfl (w.heap.size + 3) rfl 123 (arr (bcm D E 16)) (0, 0) _ h5 Try.underlying123 rfl hi2 ?_) | (refine wpList_store_row rfl 123 (.tmp 4) (.tmp 31) rfl (w.heap.size + 2) rfl (arr (bcm D E 16)) rfl 123 _ h4 hi2 hsz (arr_one _) ?_))
      refine bodyPost_ret (results_cell_row rfl _ _ (w.heap.size + 2) 123 (arr (bcm D E 16)) (0, 0) _ rfl h4.row Try.underlying123 rfl hi2) rfl ?_
      exact ⟨by rw [HN.out], below_setRow' hbel (by omega) _⟩
end Go.Proofs.Ytgkghebjaedjmaa
namespace Go.Proofs.Ytgkghebjaedjmaa
open Go.RowKit NP
set_option maxRecDepth 8000
set_option linter.unusedVariables false
set_option linter.unusedSimpArgs false
theorem lo_len (D E : List Int) : ((List.range 16).map (lo2 D E)).length = 16 := by simp
theorem hi_len (D E : List Int) : ((List.range 16).map (hi2 D E)).length = 16 := by simp
theorem lo2_pad {P Q : List Int} (hp : P.length ≤ 16) (hq : Q.length ≤ 16) : lo2 (pad P) (pad Q) = lo2 P Q := by funext i; unfold lo2; rw [pad_getD hp, pad_getD hq]
theorem hi2_pad {P Q : List Int} (hp : P.length ≤ 16) (hq : Q.length ≤ 16) : hi2 (pad P) (pad Q) = hi2 P Q := by funext i; unfold hi2; rw [pad_getD hp, pad_getD hq]
theorem T_guardB : Try.prog.eqGuardType Try.prog.depth 123 = false := by kernel_rfl
theorem keep_rr {w0 w w' : World} {g1 g2 : Nat} {c1 c2 : List Value} (h : w.rangeAt g1 0 c1 ∧ w.rangeAt g2 0 c2 ∧ Below w0.heap.size w0 w) (hb : Below w.heap.size w w') :
    w'.rangeAt g1 0 c1 ∧ w'.rangeAt g2 0 c2 ∧ Below w0.heap.size w0 w' :=
  ⟨range_below h.1 hb, range_below h.2.1 hb, h.2.2.trans (hb.mono h.2.2.size)⟩

set_option maxHeartbeats 2000000 in
theorem hasInside_any (P Q : List Int) (hp : valid P = true) (hq : valid Q = true) (w : World) :
    Calls Try.prog 86 #[.agg (arr (pad P)), .agg (arr (pad Q))] w fun e w' => e = .returned (.bool (ins P Q)) ∧ Below w.heap.size w w' := by
  have hpl := (valid_bd hp).2.2.2
  have hql := (valid_bd hq).2.2.2
  have hlP := pad_len hpl
  have hlQ := pad_len hql
  have hiP := info_diag (pad P) hlP
  have hiQ := info_diag (pad Q) hlQ
  have hu := Try.underlying60
  have hb2 : Blk ((w.alloc (.cells (arr (pad P)) 60)).alloc (.cells (arr (pad Q)) 60)) w.heap.size 60 (arr (pad P)) := (Blk.new w 60 (arr (pad P))).alloc _
  have hb3 : Blk ((w.alloc (.cells (arr (pad P)) 60)).alloc (.cells (arr (pad Q)) 60)) (w.heap.size + 1) 60 (arr (pad Q)) := by
    have e := Blk.new (w.alloc (.cells (arr (pad P)) 60)) 60 (arr (pad Q))
    rw [World.size_alloc] at e
    exact e
  have hr2 : ((w.alloc (.cells (arr (pad P)) 60)).alloc (.cells (arr (pad Q)) 60)).rangeAt w.heap.size 0 (ints (pad P)) := Blk.range hb2
  have hr3 : ((w.alloc (.cells (arr (pad P)) 60)).alloc (.cells (arr (pad Q)) 60)).rangeAt (w.heap.size + 1) 0 (ints (pad Q)) := Blk.range hb3
  have hal : Below w.heap.size w ((w.alloc (.cells (arr (pad P)) 60)).alloc (.cells (arr (pad Q)) 60)) := ((Below.refl _ _).alloc (Nat.le_refl _) _).alloc (by simp) _
  have hbld : ∀ w : World, (Instr.build 123 #[(0, .agg (ints (pad Q)).toArray), (1, .agg (ints (pad P)).toArray)]).run Try.prog w = .ok (.agg (arr (pad Q ++ pad P))) w := T_build (pad Q) (pad P) hlQ hlP
  have heql : ∀ w : World, (Op.equalIn 10000 123 (.agg (arr ((List.range 16).map (lo2 (pad P) (pad Q)) ++ (List.range 16).map (hi2 (pad P) (pad Q))))) (.agg (arr (pad Q ++ pad P)))).run Try.prog w = .ok (ins P Q) w := fun w => by
    rw [T_eqb _ _ _ _ (lo_len _ _) (hi_len _ _) hlQ hlP, ins_bounds hp hq, lo2_pad hpl hql, hi2_pad hpl hql]
  have hgt := T_guardB
  have HLP := Lib.hid hlP
  have HLQ := Lib.hid hlQ
  clear hp hq hpl hql hlP hlQ hb2 hb3
  go_enter Try.func86, Try.ntmps86
  go_wp2_with fail
  refine wp_region_held_drew (S := (fun w' => w'.rangeAt w.heap.size 0 (ints (pad P)) ∧ w'.rangeAt (w.heap.size + 1) 0 (ints (pad Q)) ∧ Below w.heap.size w w')) (by kernel_rfl) ⟨hr2, hr3, hal.trans ((Dr.n _ 1).below _)⟩ (fun hHeld => ?_)
  refine wpAnyH_take (i := 0) (v := _) (by simp only [List.getElem?_toArray, List.getElem?_cons_succ, List.getElem?_cons_zero]; exact rfl) (by kernel_rfl) (by kernel_rfl) (by kernel_rfl) (by intro _ _ _ h; exact h) (yieldsIf_load_mid (by kernel_rfl) _ _ rfl w.heap.size 0 rfl (ints (pad P)) _ (fun _ hw => hw.1) hu rfl hiP) (by assumption) ?_
  simp only [Act.put, List.setIfInBounds_toArray, List.set_cons_zero, List.set_cons_succ, List.toList_toArray]
  refine wpAnyH_take (i := 1) (v := _) (by simp only [List.getElem?_toArray, List.getElem?_cons_succ, List.getElem?_cons_zero]; exact rfl) (by kernel_rfl) (by kernel_rfl) (by kernel_rfl) (by intro _ _ _ h; exact h) (yieldsIf_load_mid (by kernel_rfl) _ _ rfl (w.heap.size + 1) 0 rfl (ints (pad Q)) _ (fun _ hw => hw.2.1) hu rfl hiQ) (by assumption) ?_
  simp only [Act.put, List.setIfInBounds_toArray, List.set_cons_zero, List.set_cons_succ, List.toList_toArray]
  refine wpAnyH_take (i := 3) (v := _) (by simp only [List.getElem?_toArray, List.getElem?_cons_succ, List.getElem?_cons_zero]; exact rfl) (by kernel_rfl) (by kernel_rfl) (by kernel_rfl) (by intro _ _ _ h; exact h) (yieldsIf_load_mid (by kernel_rfl) _ _ rfl (w.heap.size + 1) 0 rfl (ints (pad Q)) _ (fun _ hw => hw.2.1) hu rfl hiQ) (by assumption) ?_
  simp only [Act.put, List.setIfInBounds_toArray, List.set_cons_zero, List.set_cons_succ, List.toList_toArray]
  refine wpAnyH_take (i := 4) (v := _) (by simp only [List.getElem?_toArray, List.getElem?_cons_succ, List.getElem?_cons_zero]; exact rfl) (by kernel_rfl) (by kernel_rfl) (by kernel_rfl) (by intro _ _ _ h; exact h) (yieldsIf_load_mid (by kernel_rfl) _ _ rfl w.heap.size 0 rfl (ints (pad P)) _ (fun _ hw => hw.1) hu rfl hiP) (by assumption) ?_
  simp only [Act.put, List.setIfInBounds_toArray, List.set_cons_zero, List.set_cons_succ, List.toList_toArray]
  refine wpAnyH_take (i := 5) (v := (.agg (arr (pad Q ++ pad P)))) (by simp only [List.getElem?_toArray, List.getElem?_cons_succ, List.getElem?_cons_zero]; exact rfl) (by kernel_rfl) (by kernel_rfl) (by kernel_rfl) (by intro _ _ _ h; exact h) (Or.inl ⟨by kernel_rfl, by intro w hSw; exact exec_build _ _ _ rfl rfl rfl (hbld w)⟩) (by assumption) ?_
  simp only [Act.put, List.setIfInBounds_toArray, List.set_cons_zero, List.set_cons_succ, List.toList_toArray]
  refine wpAnyH_ready (rs := [2]) (by kernel_rfl) (by simp) ?_
  refine AllReadyH.cons (o := _) (by simp only [List.getElem?_toArray, List.getElem?_cons_succ, List.getElem?_cons_zero]; exact rfl) (fun K hK => ?_) AllReadyH.nil
  rw [if_pos (by rfl)]
  go_simp
  go_at_call 98
  refine (byCells_any (pad P) (pad Q) HLP.out HLQ.out _).mono ?_
  rintro e w8 ⟨rfl, hbd⟩
  refine hK.out _ _ (keep_rr hHeld hbd) (fun hH => ?_)
  clear hK K
  try simp only [Act.put, List.setIfInBounds_toArray, List.set_cons_zero, List.set_cons_succ, List.toList_toArray]
  refine wpAnyH_take (i := 6) (v := (.bool (ins P Q))) (by simp only [List.getElem?_toArray, List.getElem?_cons_succ, List.getElem?_cons_zero]; exact rfl) (by kernel_rfl) (by kernel_rfl) (by kernel_rfl) (by intro _ _ _ h; exact h) (Or.inl ⟨by kernel_rfl, by intro w hSw; exact exec_eql _ _ _ _ rfl rfl rfl hgt (heql w)⟩) (by assumption) ?_
  simp only [Act.put, List.setIfInBounds_toArray, List.set_cons_zero, List.set_cons_succ, List.toList_toArray]
  refine wpAnyH_take (i := 7) (v := (.bool (ins P Q))) (by simp only [List.getElem?_toArray, List.getElem?_cons_succ, List.getElem?_cons_zero]; exact rfl) (by kernel_rfl) (by kernel_rfl) (by kernel_rfl) (by intro _ _ _ h; exact h) (Or.inl ⟨by kernel_rfl, by intro w hSw; go_simp⟩) (by assumption) ?_
  simp only [Act.put, List.setIfInBounds_toArray, List.set_cons_zero, List.set_cons_succ, List.toList_toArray]
  refine wpAnyH_done (by kernel_rfl) ?_ _
  try simp only [Act.put, List.setIfInBounds_toArray, List.set_cons_zero, List.set_cons_succ]
  go_wp2
  go_ret
  exact ⟨rfl, hH.2.2⟩
end Go.Proofs.Ytgkghebjaedjmaa
namespace Go.Proofs.Ytgkghebjaedjmaa
open Go.RowKit
set_option linter.unusedVariables false
namespace NP
/-- may a row stand on the last one? -/
def fitP (H : List (List Int)) (P : List Int) : Bool := decide (H.length = 0) || ins (H.getD (H.length - 1) []) P
/-- all that comes of the rows of a list -/
def pqs (g : List (List Int) → List (List (List Int))) (H : List (List Int)) (l : List (List Int)) : List (List (List Int)) := l.flatMap fun P => if fitP H P then g (H ++ [P]) else []
/-- all piles that begin with some rows and have so much more -/
def pq : Nat → List (List Int) → Nat → List (List (List Int))
  | 0, H, n => if n = 0 then [H] else []
  | f + 1, H, n => if n = 0 then [H] else (List.range n).flatMap fun i => pqs (fun K => pq f K i) H (allQ (n - i) (n - i) (n - i))
/-- those whose next row has at least so much -/
def pqk (f : Nat) (H : List (List Int)) (n r : Nat) : List (List (List Int)) := (List.range r).flatMap fun i => pqs (fun K => pq f K i) H (allQ (n - i) (n - i) (n - i))
theorem pq_zero (f : Nat) (H : List (List Int)) : pq f H 0 = [H] := by cases f <;> simp [pq]
theorem pq_up {f n : Nat} (H : List (List Int)) (h : n ≠ 0) : pq (f + 1) H n = pqk f H n n := by simp [pq, h, pqk]
theorem pqk_zero (f : Nat) (H : List (List Int)) (n : Nat) : pqk f H n 0 = [] := rfl
theorem pqk_succ (f : Nat) (H : List (List Int)) (n r : Nat) : pqk f H n (r + 1) = pqk f H n r ++ pqs (fun K => pq f K r) H (allQ (n - r) (n - r) (n - r)) := by
  unfold pqk
  rw [List.range_succ, List.flatMap_append]
  simp
theorem pqs_snoc (g : List (List Int) → List (List (List Int))) (H : List (List Int)) (l : List (List Int)) (P : List Int) : pqs g H (l ++ [P]) = pqs g H l ++ if fitP H P then g (H ++ [P]) else [] := by
  unfold pqs
  rw [List.flatMap_append]
  simp
theorem len_flat2 {α β : Type} {f : α → List β} {M : Nat} : ∀ {l : List α}, (∀ x ∈ l, (f x).length ≤ M) → (l.flatMap f).length ≤ l.length * M := by
  intro l
  induction l with
  | nil => intro _; simp
  | cons x R ih =>
    intro h
    rw [List.flatMap_cons, List.length_append, List.length_cons, Nat.add_mul]
    have h1 := h x (List.mem_cons_self ..)
    have h2 := ih (fun y hy => h y (List.mem_cons_of_mem _ hy))
    omega
theorem pqs_len {g : List (List Int) → List (List (List Int))} {M : Nat} (h : ∀ K, (g K).length ≤ M) (H : List (List Int)) (l : List (List Int)) : (pqs g H l).length ≤ l.length * M :=
  len_flat2 fun P _ => by
    cases fitP H P with
    | true => exact h _
    | false => exact Nat.zero_le _
theorem allQ6 : (List.range 7).all (fun k => k == 0 || decide ((allQ k k k).length ≤ 2 ^ (k - 1))) = true := by decide +kernel
theorem allQ6_len {k : Nat} (h1 : 1 ≤ k) (h : k ≤ 6) : (allQ k k k).length ≤ 2 ^ (k - 1) := by
  have := List.all_eq_true.1 allQ6 k (by simp; omega)
  simp only [Bool.or_eq_true, beq_iff_eq, decide_eq_true_eq] at this
  rcases this with h0 | h0
  · omega
  · exact h0
theorem pqk_bd {f n : Nat} (hn : n ≤ 6) (h : ∀ K i, i ≤ 6 → (pq f K i).length ≤ 3 ^ i) (H : List (List Int)) : ∀ r, r ≤ n → (pqk f H n r).length + 2 ^ n ≤ 2 ^ (n - r) * 3 ^ r := by
  intro r
  induction r with
  | zero => intro _; simp [pqk_zero]
  | succ r ih =>
    intro hr
    have h1 := ih (by omega)
    have h2 := pqs_len (g := fun K => pq f K r) (fun K => h K r (by omega)) H (allQ (n - r) (n - r) (n - r))
    have h3 := Nat.mul_le_mul_right (3 ^ r) (allQ6_len (k := n - r) (by omega) (by omega))
    rw [pqk_succ, List.length_append]
    obtain ⟨m, hm⟩ : ∃ m, n - r = m + 1 := ⟨n - r - 1, by omega⟩
    have e1 : n - (r + 1) = m := by omega
    rw [hm] at h1 h2 h3
    rw [Nat.add_sub_cancel] at h3
    rw [e1, hm]
    rw [Nat.pow_succ] at h1
    rw [Nat.pow_succ 3 r]
    have e2 : 2 ^ m * 2 * 3 ^ r = 2 * (2 ^ m * 3 ^ r) := by rw [Nat.mul_comm (2 ^ m) 2, Nat.mul_assoc]
    have e3 : 2 ^ m * (3 ^ r * 3) = 3 * (2 ^ m * 3 ^ r) := by rw [← Nat.mul_assoc, Nat.mul_comm]
    rw [e2] at h1
    rw [e3]
    omega
theorem pq_bd : ∀ (f : Nat) (H : List (List Int)) (n : Nat), n ≤ 6 → (pq f H n).length ≤ 3 ^ n := by
  intro f
  induction f with
  | zero =>
    intro H n _
    by_cases h0 : n = 0
    · subst h0; rw [pq_zero]; simp
    · simp [pq, h0]
  | succ f ih =>
    intro H n hn
    by_cases h0 : n = 0
    · subst h0; rw [pq_zero]; simp
    · rw [pq_up H h0]
      have := pqk_bd hn (fun K i hi => ih K i hi) H n (Nat.le_refl _)
      rw [Nat.sub_self, Nat.pow_zero, Nat.one_mul] at this
      exact Nat.le_trans (Nat.le_add_right _ _) this
theorem pq_few (f : Nat) (H : List (List Int)) {n : Nat} (hn : n ≤ 6) : (pq f H n).length ≤ 729 := Nat.le_trans (pq_bd f H n hn) (Nat.pow_le_pow_right (by omega) hn)
theorem pqs_few (f : Nat) (H : List (List Int)) {i : Nat} (hi : i ≤ 6) (l : List (List Int)) : (pqs (fun K => pq f K i) H l).length ≤ l.length * 729 := pqs_len (fun K => pq_few f K hi) H l
theorem pqk_few (f : Nat) (H : List (List Int)) {n r : Nat} (hn : n ≤ 6) (hr : r ≤ n) : (pqk f H n r).length ≤ 46656 := by
  have h := pqk_bd hn (fun K i hi => pq_bd f K i hi) H r hr
  have h1 : 2 ^ (n - r) * 3 ^ r ≤ 2 ^ 6 * 3 ^ 6 := Nat.mul_le_mul (Nat.pow_le_pow_right (by omega) (by omega)) (Nat.pow_le_pow_right (by omega) (by omega))
  exact Nat.le_trans (Nat.le_trans (Nat.le_add_right _ _) h) (Nat.le_trans h1 (by decide))
theorem sumLL_snoc (H : List (List Int)) (P : List Int) : sumLL (H ++ [P]) = sumLL H + sumL P := by
  have := sumLL_succ (LL := H ++ [P]) (k := H.length) (by simp)
  rw [List.take_of_length_le (by simp), List.take_left, List.getElem_append_right (Nat.le_refl _)] at this
  simpa using this
/-- a row more makes a pile just if it fits -/
theorem fit_vpl {H : List (List Int)} {P : List Int} (h : vpl H = true) (hP : valid P = true) (hne : P ≠ []) (hs : sumL P ≤ 16 - sumLL H) : vpl (H ++ [P]) = fitP H P := by
  have hk : H.length < (H ++ [P]).length := by simp
  have htk : (H ++ [P]).take H.length = H := List.take_left
  have hat : (H ++ [P])[H.length] = P := by rw [List.getElem_append_right (Nat.le_refl _)]; simp
  have hgd : 0 < H.length → (H ++ [P]).getD (H.length - 1) [] = H.getD (H.length - 1) [] := fun h0 => by
    rw [List.getD_eq_getElem?_getD, List.getElem?_append_left (by omega), List.getD_eq_getElem?_getD]
  cases hf : fitP H P with
  | true =>
    have := vpl_next (LL := H ++ [P]) hk (by rw [htk]; exact h) (by rw [hat]; exact hP) (by rw [hat]; exact hne) (fun h0 => by
      rw [hat, hgd h0]
      unfold fitP at hf
      simp only [Bool.or_eq_true, decide_eq_true_eq] at hf
      rcases hf with hf | hf
      · omega
      · exact hf) (by rw [hat, htk]; exact hs)
    rwa [List.take_of_length_le (by simp)] at this
  | false =>
    refine vpl_stop (LL := H ++ [P]) hk fun hh => ?_
    obtain ⟨_, _, _, h4⟩ := hh
    unfold fitP at hf
    simp only [Bool.or_eq_false_iff, decide_eq_false_iff_not] at hf
    have h5 := h4 (by omega)
    rw [hat, hgd (by omega), hf.2] at h5
    cases h5
theorem gridR_snoc {H : List (List Int)} (P : List Int) (h : H.length < 16) : (gridR H).set H.length (pad P) = gridR (H ++ [P]) := by
  have := gridR_set (LL := H ++ [P]) (k := H.length) (by simp) h
  rw [List.take_left, List.take_of_length_le (by simp), List.getElem_append_right (Nat.le_refl _)] at this
  simpa using this
def pilF (n : Int) : List (List (List Int)) := if 0 ≤ n ∧ n ≤ 6 then pq n.toNat [] n.toNat else []
theorem pilF_yes {n : Nat} (h : n ≤ 6) : pilF (n : Int) = pq n [] n := by unfold pilF; rw [if_pos (by omega)]; simp
theorem pilF_no {n : Int} (h : ¬ (0 ≤ n ∧ n ≤ 6)) : pilF n = [] := by unfold pilF; rw [if_neg h]
def pilB (n : Nat) : Bool := (pq n [] n).all fun LL => decide (LL.length ≤ 16) && (decide (cntLL LL ≤ 16) && (LL.all fun L => decide (L.length ≤ 16)))
theorem pilB_all : (List.range 7).all pilB = true := by decide +kernel
theorem pilF_bd (n : Int) : (pilF n).length ≤ 729 ∧ ∀ LL ∈ pilF n, LL.length ≤ 16 ∧ cntLL LL ≤ 16 ∧ ∀ L ∈ LL, L.length ≤ 16 := by
  unfold pilF
  split
  · rename_i h
    refine ⟨pq_few _ _ (by omega), fun LL hL => ?_⟩
    have h1 := List.all_eq_true.1 pilB_all n.toNat (by simp; omega)
    have h2 := List.all_eq_true.1 h1 LL hL
    simp only [Bool.and_eq_true, decide_eq_true_eq, List.all_eq_true] at h2
    exact h2
  · exact ⟨by simp, fun x hx => by cases hx⟩
end NP
end Go.Proofs.Ytgkghebjaedjmaa
namespace Go.Proofs.Ytgkghebjaedjmaa
open Go.RowKit
set_option linter.unusedVariables false
section flat
variable {n : Nat} {R : List (List Int)}
theorem flatN_len (h : ∀ L ∈ R, L.length = n) : R.flatten.length = R.length * n := by
  induction R with
  | nil => simp
  | cons x S ih => rw [List.flatten_cons, List.length_append, ih (fun L hL => h L (List.mem_cons_of_mem _ hL)), h x (List.mem_cons_self ..), List.length_cons, Nat.add_mul]; omega
theorem flatN_get (h : ∀ L ∈ R, L.length = n) : ∀ {i k : Nat} (hi : i < R.length), k < n → R.flatten[i * n + k]? = R[i][k]? := by
  induction R with
  | nil => intro i k hi; simp at hi
  | cons x S ih =>
    intro i k hi hk
    have hx := h x (List.mem_cons_self ..)
    cases i with
    | zero => rw [Nat.zero_mul, Nat.zero_add, List.flatten_cons, List.getElem?_append_left (by omega)]; rfl
    | succ i =>
      rw [List.flatten_cons, List.getElem?_append_right (by rw [Nat.add_mul]; omega), show (i + 1) * n + k - x.length = i * n + k from by rw [Nat.add_mul]; omega, ih (fun L hL => h L (List.mem_cons_of_mem _ hL)) (by simpa using hi) hk]
      rfl
theorem flatN_set (h : ∀ L ∈ R, L.length = n) : ∀ {i k : Nat} (hi : i < R.length), k < n → ∀ v : Int, R.flatten.set (i * n + k) v = (R.set i (R[i].set k v)).flatten := by
  induction R with
  | nil => intro i k hi; simp at hi
  | cons x S ih =>
    intro i k hi hk v
    have hx := h x (List.mem_cons_self ..)
    cases i with
    | zero => simp only [Nat.zero_mul, Nat.zero_add, List.flatten_cons, List.getElem_cons_zero, List.set_cons_zero]; rw [List.set_append_left _ _ (by omega)]
    | succ i =>
      simp only [List.flatten_cons, List.getElem_cons_succ, List.set_cons_succ]
      rw [List.set_append_right _ _ (by rw [Nat.add_mul]; omega), show (i + 1) * n + k - x.length = i * n + k from by rw [Nat.add_mul]; omega, ih (fun L hL => h L (List.mem_cons_of_mem _ hL)) (by simpa using hi) hk]
end flat
structure OwnW (w : World) (lo hi : Nat) (e : TypeId) (n : Nat) (v : Value) (R : List (List Int)) : Prop where
  row : w.ownsRow lo e n v R.length (ints R.flatten)
  each : ∀ L ∈ R, L.length = n
  lt : ∀ g, v.ownBlock = some g → g < hi
  le : hi ≤ w.heap.size
section
variable {w w' : World} {lo hi : Nat} {e : TypeId} {n : Nat} {v : Value} {R : List (List Int)}
theorem ownsRowN_keep {m size : Nat} {vs : List Value} (h : w.ownsRow lo e size v m vs) (hk : ∀ g, v.ownBlock = some g → w'.heap[g]? = w.heap[g]?) : w'.ownsRow lo e size v m vs := by
  refine ⟨h.1, ?_⟩
  rcases h.2 with hn | ⟨g, cap, cur, rfl, hb, hg, rest⟩
  · exact .inl hn
  · exact .inr ⟨g, cap, cur, rfl, hb, (hk g rfl).trans hg, rest⟩
theorem OwnW.keep (h : OwnW w lo hi e n v R) (hs : w.heap.size ≤ w'.heap.size) (hk : ∀ g, v.ownBlock = some g → w'.heap[g]? = w.heap[g]?) : OwnW w' lo hi e n v R :=
  ⟨ownsRowN_keep h.row hk, h.each, h.lt, Nat.le_trans h.le hs⟩
theorem OwnW.below (h : OwnW w lo hi e n v R) (hb : Below hi w w') : OwnW w' lo hi e n v R := h.keep hb.size fun g hg => hb.block g (h.lt g hg)
theorem OwnW.alloc (h : OwnW w lo hi e n v R) (o : Obj) : OwnW (w.alloc o) lo hi e n v R :=
  h.keep (by simp) fun g hg => Below.heap_alloc w o g (Nat.lt_of_lt_of_le (h.lt g hg) h.le)
theorem OwnW.more (h : OwnW w lo hi e n v R) : OwnW w lo w.heap.size e n v R := ⟨h.row, h.each, fun g hg => Nat.lt_of_lt_of_le (h.lt g hg) h.le, Nat.le_refl _⟩
theorem OwnW.lower {lo' : Nat} (h : OwnW w lo hi e n v R) (hl : lo' ≤ lo) : OwnW w lo' hi e n v R :=
  ⟨⟨h.row.1, h.row.2.imp id fun ⟨g, cap, cur, h1, h2, h3⟩ => ⟨g, cap, cur, h1, Nat.le_trans hl h2, h3⟩⟩, h.each, h.lt, h.le⟩
theorem OwnW.dr (h : OwnW w lo hi e n v R) (hd : Dr w w') : OwnW w' lo hi e n v R := h.below (hd.below hi)
theorem OwnW.form (h : OwnW w lo hi e n v R) : ∃ a c, v = .slice a R.length c := by
  rcases h.row.2 with ⟨h1, h2⟩ | ⟨g, cap, cur, h1, _⟩
  · exact ⟨none, 0, by rw [h1, h2]⟩
  · exact ⟨_, _, h1⟩
theorem OwnW.nil (w : World) (lo : Nat) (e : TypeId) (n : Nat) : OwnW w lo w.heap.size e n (.slice none 0 0) [] :=
  ⟨World.ownsRow_nil w lo e n, fun L hL => by simp at hL, fun g hg => by simp [Value.ownBlock] at hg, Nat.le_refl _⟩
theorem OwnW.at_ (h : OwnW w lo hi e n v R) {k : Nat} (hk : k < R.length) :
    ∃ g c, v = .slice (some ⟨g, 0, none⟩) R.length c ∧ lo ≤ g ∧ g < hi ∧ (∀ j x, j < n → R[k][j]? = some x → w.cell? ⟨g, k * n + j, none⟩ = some (.int .i64 x)) ∧ ∀ i, w.frozen? ⟨g, i, none⟩ = false := by
  rcases h.row.2 with ⟨h1, h2⟩ | ⟨g, cap, cur, rfl, hb, hg, _, _, _, ht⟩
  · omega
  · refine ⟨g, cap, rfl, hb, h.lt g rfl, fun j x hj hx => ?_, fun i => frozen_of_row w g i cur e hg⟩
    rw [cell_of_row w g (k * n + j) cur e (0, 0) hg]
    have h3 : R.flatten[k * n + j]? = some x := by rw [flatN_get h.each hk hj]; exact hx
    have h4 : (ints R.flatten)[k * n + j]? = some (.int .i64 x) := by unfold ints; rw [List.getElem?_map, h3]; rfl
    rw [← ht, List.getElem?_take] at h4
    split at h4
    · simpa using h4
    · cases h4
theorem OwnW.range (h : OwnW w lo hi e n v R) {k : Nat} (hk : k < R.length) :
    ∃ g c, v = .slice (some ⟨g, 0, none⟩) R.length c ∧ lo ≤ g ∧ g < hi ∧ (∀ o (M : List Int), o + M.length ≤ n → (∀ j, j < M.length → M[j]? = R[k][o + j]?) → w.rangeAt g (k * n + o) (ints M)) ∧ (∀ i, w.frozen? ⟨g, i, none⟩ = false) := by
  obtain ⟨g, c, h1, h2, h3, h4, h5⟩ := h.at_ hk
  refine ⟨g, c, h1, h2, h3, fun o M hM hj i u hu => ?_, h5⟩
  have hi' : i < M.length := by have := (List.getElem?_eq_some_iff.1 hu).1; simpa using this
  rw [Nat.add_assoc]
  have e1 := hj i hi'
  rw [List.getElem?_eq_getElem hi'] at e1
  rw [h4 (o + i) M[i] (by omega) e1.symm]
  simp only [ints, List.getElem?_map, List.getElem?_eq_getElem hi', Option.map_some, Option.some.injEq] at hu
  rw [← hu]
theorem OwnW.set {g c : Nat} {m : Nat} (h : OwnW w lo hi e n (.slice (some ⟨g, 0, none⟩) m c) R) {k j : Nat} (hk : k < R.length) (hj : j < n) (x : Int) : OwnW (w.setCell ⟨g, k * n + j, none⟩ (.int .i64 x)) lo hi e n (.slice (some ⟨g, 0, none⟩) m c) (R.set k (R[k].set j x)) := by
  obtain ⟨a', c', hv⟩ := h.form
  injection hv with _ hm _
  subst hm
  have h1 := h.row.stored (k * n + j) (.int .i64 x)
  refine ⟨?_, fun L hL => ?_, h.lt, ?_⟩
  · rw [List.length_set, ← flatN_set h.each hk hj]
    have e : ints (R.flatten.set (k * n + j) x) = (ints R.flatten).set (k * n + j) (.int .i64 x) := by simp [ints, List.map_set]
    rw [e]; exact h1.1
  · rcases List.mem_or_eq_of_mem_set hL with h2 | h2
    · exact h.each L h2
    · rw [h2, List.length_set]; exact h.each _ (List.getElem_mem hk)
  · have := h.le; simpa [World.setCell] using this
theorem OwnW.grown {row : Option Nat} (h : OwnW w lo hi e n v R) (hg : w.grownBy w' row) (hr : v.ownBlock = none ∨ v.ownBlock ≠ row) : OwnW w' lo hi e n v R :=
  h.keep hg.size fun g hgv => hg.block g (Nat.lt_of_lt_of_le (h.lt g hgv) h.le) (by
    rcases hr with hr | hr
    · rw [hr] at hgv; cases hgv
    · rw [← hgv]; exact hr)
end
/-- one row more -/
theorem wpList_append_w {P : Program} {w : World} {ops : Array Oper} {rest : List Oper} {o : Oper} {a : Act} {Q : Exit → Act → World → Prop} (hgd : o.guard = none) (s x : Operand) (t : TypeId)
    (ho : o.op = .call { callee := .builtin .append, args := #[s, x], argTypes := #[t, t] })
    (lo hi : Nat) (e : TypeId) (i : TypeInfo) (z : Value) (n bytes : Nat) (ht : P.underlying t = some (.slice e)) (hi0 : P.info? e = some i) (hz : i.zero = some z)
    (hsize : i.size = n) (hby : i.bytes = bytes) (hzs : z.cells.size = n) (hn : 0 < n)
    (v : Value) (R : List (List Int)) (hs : a.eval s = v) (hown : OwnW w lo hi e n v R) (hlo : lo ≤ w.heap.size)
    (g c : Nat) (L : List Int) (hx : a.eval x = .slice (some ⟨g, 0, none⟩) 1 c) (hL : L.length = n) (hc : w.rangeAt g 0 (ints L))
    (hl : R.length ≤ 100000) (hb : bytes ≤ 100000)
    (h : ∀ v' w', OwnW w' lo w'.heap.size e n v' (R ++ [L]) → w.grownBy w' v.ownBlock → (v'.ownBlock = v.ownBlock ∨ v'.ownBlock = some w.heap.size) → wpList P ops Q rest (a.put o.dst v') w') : wpList P ops Q (o :: rest) a w :=
  wpList_plain hgd fun _ hK => by
    obtain ⟨v', w', hrun, h2, h3, _, h5⟩ := run_append_own_at (P := P) w lo t o.type e i z n bytes ht hi0 hz hsize hby hzs hn v _ (ints R.flatten) hown.row ⟨g, 0, none⟩ 1 c (ints L) (by simp [hL]) (fun j u hu => by rw [Addr.add_mid]; exact hc j u hu) (fun u hu => by simp [ints] at hu; obtain ⟨y, _, rfl⟩ := hu; rfl) (by unfold maxLen; omega) (by
      have : (R.length + 1) * bytes ≤ 100001 * 100000 := Nat.mul_le_mul (by omega) hb
      omega) hlo
    have hR : ints R.flatten ++ ints L = ints (R ++ [L]).flatten := by simp [ints]
    rw [hR] at h2
    unfold Oper.wp execOp
    simp only [ho, resolve, invoke, builtin, Sem.run_bind, Sem.run_pure, Result.andThen_ok, List.map_toArray, List.map_cons, List.map_nil, hs, hx]
    rw [hrun]
    refine hK _ _ (h v' w' ⟨by rw [List.length_append]; exact h2, fun M hM => ?_, fun g' hg' => (h2.lt g' hg').2, Nat.le_refl _⟩ h3 h5)
    rcases List.mem_append.1 hM with hM | hM
    · exact hown.each M hM
    · rw [List.mem_singleton.1 hM]; exact hL
/-- one row that has just been laid -/
theorem OwnW.one (w : World) (e : TypeId) (n : Nat) (L : List Int) (hL : L.length = n) : OwnW (w.alloc (.cells (arr L) e)) w.heap.size (w.heap.size + 1) e n (.slice (some ⟨w.heap.size, 0, none⟩) 1 1) [L] :=
  ⟨⟨by simp [hL], .inr ⟨w.heap.size, 1, _, rfl, Nat.le_refl _, heap_alloc_new w _, Nat.le_refl _, by unfold maxLen; omega, by simp [arr, ints, hL], by simp [arr, ints, ← hL]; exact List.take_of_length_le (by simp)⟩⟩, fun M hM => by rw [List.mem_singleton.1 hM]; exact hL, fun g hg => by simp [Value.ownBlock] at hg; omega, by simp⟩
theorem OwnW.base {w : World} {lo hi : Nat} {e : TypeId} {n : Nat} {v : Value} {R : List (List Int)} (h : OwnW w lo hi e n v R) : ∀ g, v.ownBlock = some g → lo ≤ g := fun g hg => (h.row.lt g hg).1
end Go.Proofs.Ytgkghebjaedjmaa
namespace Go.Proofs.Ytgkghebjaedjmaa
open Go.RowKit
/-- nothing outside of the blocks from lo up to hi has changed -/
def Aside (lo hi : Nat) (w w' : World) : Prop := w.heap.size ≤ w'.heap.size ∧ ∀ g, (g < lo ∨ hi ≤ g) → g < w.heap.size → w'.heap[g]? = w.heap[g]?
theorem Aside.refl (lo hi : Nat) (w : World) : Aside lo hi w w := ⟨Nat.le_refl _, fun _ _ _ => rfl⟩
theorem Aside.grown {w w1 w2 : World} {lo hi : Nat} {e : TypeId} {v : Value} {vs : List Value} (h : Aside lo hi w w1) (ho : Own w1 lo hi e v vs) (hg : w1.grownBy w2 v.ownBlock) : Aside lo hi w w2 := by
  refine ⟨Nat.le_trans h.1 hg.size, fun g hgo hgl => ?_⟩
  rw [← h.2 g hgo hgl]
  refine hg.block g (Nat.lt_of_lt_of_le hgl h.1) (fun e => ?_)
  have h1 := ho.lt g e.symm
  have h2 := ho.base g e.symm
  omega
theorem Own.aside {w w' : World} {lo hi lox hix : Nat} {e : TypeId} {v : Value} {vs : List Value} (h : Own w lox hix e v vs) (ha : Aside lo hi w w') (hd : hix ≤ lo ∨ hi ≤ lox) : Own w' lox hix e v vs :=
  h.keep ha.1 fun g hg => ha.2 g (by have h1 := h.lt g hg; have h2 := h.base g hg; omega) (Nat.lt_of_lt_of_le (h.lt g hg) h.le)
theorem Own.wide {w : World} {lo hi lo' hi' : Nat} {e : TypeId} {v : Value} {vs : List Value} (h : Own w lo hi e v vs) (h1 : lo' ≤ lo) (h2 : hi ≤ hi') (h3 : hi' ≤ w.heap.size) : Own w lo' hi' e v vs :=
  ⟨(h.lower h1).row, fun g hg => Nat.lt_of_lt_of_le (h.lt g hg) h2, h3⟩
theorem Aside.alloc {w w1 : World} {lo hi : Nat} (h : Aside lo hi w w1) (o : Obj) : Aside lo hi w (w1.alloc o) :=
  ⟨Nat.le_trans h.1 (by simp), fun g hg hl => (Below.heap_alloc w1 o g (Nat.lt_of_lt_of_le hl h.1)).trans (h.2 g hg hl)⟩
theorem Aside.below {w w1 w2 : World} {lo hi : Nat} (h : Aside lo hi w w1) (hb : Below w.heap.size w1 w2) : Aside lo hi w w2 :=
  ⟨Nat.le_trans h.1 hb.size, fun g hg hl => (hb.block g hl).trans (h.2 g hg hl)⟩
theorem Aside.wide {w w1 : World} {lo hi lo' hi' : Nat} (h : Aside lo hi w w1) (h1 : lo' ≤ lo) (h2 : hi ≤ hi') : Aside lo' hi' w w1 :=
  ⟨h.1, fun g hg hl => h.2 g (by omega) hl⟩
end Go.Proofs.Ytgkghebjaedjmaa
