/-
  Walks of the program: whether a diagram covers another. Arrays of arrays: sixteen rows of sixteen numbers as one row of cells. Walks of the program: one growth more among those of a level. Walks: corners of the model and of the program. Walks of the program: the level below. A region that draws its order, all of whose operations yield fixed values but that two of them store: what does not look at the memory may come at any time. Plain mathematics of summands: they are bits (an end or not behind each but the last), turned, linked, opposite. No Go text. Plain mathematics of summands: the answers of the functions as closed forms. No Go text.
-/
import Derived.Test.YthafbdpeignccaaZR1
import Derived.Test.YthafbdpeignccaaZR2
import Derived.Test.YthafbdpeignccaaZR3
import Derived.Shelf.Abstract
namespace Go.Proofs.Ythafbdpeignccaa
open Go.RowKit Go.Shelf NP
set_option maxRecDepth 8000
set_option linter.unusedVariables false
set_option linter.unusedSimpArgs false
theorem op_loadv {P : Program} {o : Oper} {a : Act} {w w' : World} {K : Act → World → Prop} {Q : Exit → Act → World → Prop} {v : Value} (ty : TypeId) (x : Operand) (ho : o.op = .load ty x) (p : Addr) (hx : a.eval x = .pointer (some p))
    (hrun : (loadVar ty p).run P w = .ok v w') (hK : K (a.put o.dst v) w') : o.wp P a w K Q := by
  unfold Oper.wp execOp
  simp only [ho, hx, Instr.loadAt, Instr.sureAddr, Sem.run_bind, Sem.run_pure, Result.andThen_ok, hrun]
  exact hK
theorem conj_cells3 {P : List Int} (hp : valid P = true) : acc (pad P) 16 0 = pad (conj P) := (acc_end (pad P) (pad_len (valid_bd hp).2.2.2)).trans (conj_pad hp)
def covB (P Q : List Int) : Bool := dropB (pad P) (pad Q) || dropB (pad (conj Q)) (pad (conj P))
end Go.Proofs.Ythafbdpeignccaa
namespace Go.Proofs.Ythafbdpeignccaa
open Go.RowKit
set_option linter.unusedVariables false
set_option linter.unusedSimpArgs false
section
variable {P : Program}
theorem splice_size (cs vs : Array Value) (o : Nat) (hs : o + vs.size ≤ cs.size) : ((cs.toList.take o ++ vs.toList ++ cs.toList.drop (o + vs.size)).toArray).size = cs.size := by
  simp
  omega
theorem run_storeVar_at (w : World) (g o : Nat) (t ty : TypeId) (cs vs : Array Value) (hg : Blk w g t cs) (hi : (P.info? ty).map (·.size) = some vs.size) (hs : o + vs.size ≤ cs.size) (h1 : ∀ v ∈ vs.toList, v.oneCell' = true) :
    (storeVar ty ⟨g, o, none⟩ (.agg vs)).run P w = .ok () (w.setRow g (cs.toList.take o ++ vs.toList ++ cs.toList.drop (o + vs.size)).toArray) := by
  cases hq : P.info? ty with
  | none => simp [hq] at hi
  | some i =>
    have hz : i.size = vs.size := by simpa [hq] using hi
    have hst := run_storeCells_at P g o t vs.toList 0 cs w hg (by simp; omega) h1
    simp only [Nat.add_zero, Array.length_toList] at hst
    simp [storeVar, Sem.run_bind, sizeOf, typeInfo, hq, hz, Value.cells, hst]
theorem wpList_store_at {ops : Array Oper} {rest : List Oper} {oo : Oper} {a : Act} {w : World} {Q : Exit → Act → World → Prop} (hgd : oo.guard = none) (ty : TypeId) (x v : Operand) (ho : oo.op = .store ty x v)
    (g o : Nat) (hx : a.eval x = .pointer (some ⟨g, o, none⟩)) (vs : Array Value) (hv : a.eval v = .agg vs) (t : TypeId) (cs : Array Value) (hg : Blk w g t cs)
    (hi : (P.info? ty).map (·.size) = some vs.size) (hs : o + vs.size ≤ cs.size) (h1 : ∀ v ∈ vs.toList, v.oneCell' = true)
    (h : wpList P ops Q rest (a.put oo.dst undef) (w.setRow g (cs.toList.take o ++ vs.toList ++ cs.toList.drop (o + vs.size)).toArray)) : wpList P ops Q (oo :: rest) a w :=
  wpList_plain hgd fun _ hK => by
    unfold Oper.wp execOp
    simp only [ho, hx, hv, Instr.storeAt, Instr.sureAddr, Sem.run_bind, Sem.run_pure, Result.andThen_ok, run_storeVar_at w g o t ty cs vs hg hi hs h1]
    exact hK _ _ h
theorem run_loadVar_at (w : World) (g o : Nat) (t ty : TypeId) (cs vs : Array Value) (d : TypeDesc) (hg : Blk w g t cs)
    (hu : P.underlying ty = some d) (hd : (match d with | .struct _ | .array _ _ => true | _ => false) = true) (hi : (P.info? ty).map (·.size) = some vs.size)
    (hv : ∀ j (v : Value), vs[j]? = some v → cs[o + j]? = some v) : (loadVar ty ⟨g, o, none⟩).run P w = .ok (.agg vs) w := by
  have hl : (loadCells ⟨g, o, none⟩ vs.toList.length).run P w = .ok vs.toList.toArray w :=
    run_loadCells_list (P := P) w ⟨g, o, none⟩ vs.toList (fun j v hj => by
      have hadd : (⟨g, o, none⟩ : Addr).add j = ⟨g, o + j, none⟩ := by unfold Addr.add; split <;> simp_all
      rw [hadd, hg.cell (o + j)]
      exact hv j v (by simpa using hj))
  cases hq : P.info? ty with
  | none => simp [hq] at hi
  | some i =>
    have hz : i.size = vs.size := by simpa [hq] using hi
    have hagg : (isAgg ty).run P w = .ok true w := by
      unfold isAgg
      rw [Sem.run_bind, run_underlying hu w]
      cases d <;> simp_all
    simp only [Array.length_toList, Array.toArray_toList] at hl
    simp [loadVar, Sem.run_bind, hagg, sizeOf, typeInfo, hq, hz, hl]
theorem wpList_load_at {ops : Array Oper} {rest : List Oper} {oo : Oper} {a : Act} {w : World} {Q : Exit → Act → World → Prop} (hgd : oo.guard = none) (ty : TypeId) (x : Operand) (ho : oo.op = .load ty x)
    (g o : Nat) (hx : a.eval x = .pointer (some ⟨g, o, none⟩)) (t : TypeId) (cs vs : Array Value) (d : TypeDesc) (hg : Blk w g t cs)
    (hu : P.underlying ty = some d) (hd : (match d with | .struct _ | .array _ _ => true | _ => false) = true) (hi : (P.info? ty).map (·.size) = some vs.size)
    (hv : ∀ j (v : Value), vs[j]? = some v → cs[o + j]? = some v)
    (h : wpList P ops Q rest (a.put oo.dst (.agg vs)) w) : wpList P ops Q (oo :: rest) a w :=
  wpList_plain hgd fun _ hK => by
    unfold Oper.wp execOp
    simp only [ho, hx, Instr.loadAt, Instr.sureAddr, Sem.run_bind, Sem.run_pure, Result.andThen_ok, run_loadVar_at w g o t ty cs vs d hg hu hd hi hv]
    exact hK _ _ h
theorem run_index_agg (T e : TypeId) (d : TypeDesc) (n m : Nat) (hT : P.underlying T = some (.array n e)) (he : P.underlying e = some d) (hd : (match d with | .struct _ | .array _ _ => true | _ => false) = true) (hc : (P.info? e).map (·.size) = some m)
    (cs : Array Value) (k : Nat) (hk : k < n) (kd : IntKind) (w : World) : (Instr.index T (.agg cs) (.int kd k)).run P w = .ok (.agg (cs.extract (k * m) (k * m + m))) w := by
  cases hq : P.info? e with
  | none => simp [hq] at hc
  | some i =>
    have hz : i.size = m := by simpa [hq] using hc
    have hagg : ∀ w : World, (isAgg e).run P w = .ok true w := by
      intro w
      unfold isAgg
      rw [Sem.run_bind, run_underlying he w]
      cases d <;> simp_all
    simp [Instr.index, asIntOf, Sem.run_bind, run_underlying hT, sizeOf, typeInfo, hq, hz, part, hagg]
    intro hnk
    omega
end
/-- sixteen rows of sixteen -/
def Sq (R : List (List Int)) : Prop := R.length = 16 ∧ ∀ L ∈ R, L.length = 16
theorem flat_len {R : List (List Int)} (h : ∀ L ∈ R, L.length = 16) : R.flatten.length = 16 * R.length := by
  induction R with
  | nil => rfl
  | cons x S ih => rw [List.flatten_cons, List.length_append, ih (fun L hL => h L (List.mem_cons_of_mem _ hL)), h x (List.mem_cons_self ..)]; simp; omega
theorem flat_drop {R : List (List Int)} (h : ∀ L ∈ R, L.length = 16) (i : Nat) : R.flatten.drop (16 * i) = (R.drop i).flatten := by
  induction R generalizing i with
  | nil => simp
  | cons x S ih =>
    have hx := h x (List.mem_cons_self ..)
    cases i with
    | zero => simp
    | succ i =>
      rw [List.flatten_cons, List.drop_succ_cons, ← ih (fun L hL => h L (List.mem_cons_of_mem _ hL)), show 16 * (i + 1) = x.length + 16 * i by omega, List.drop_append]
      rw [List.drop_eq_nil_of_le (by omega)]
      simp
theorem flat_take {R : List (List Int)} (h : ∀ L ∈ R, L.length = 16) (i : Nat) : R.flatten.take (16 * i) = (R.take i).flatten := by
  induction R generalizing i with
  | nil => simp
  | cons x S ih =>
    have hx := h x (List.mem_cons_self ..)
    cases i with
    | zero => simp
    | succ i =>
      rw [List.flatten_cons, List.take_succ_cons, List.flatten_cons, ← ih (fun L hL => h L (List.mem_cons_of_mem _ hL)), show 16 * (i + 1) = x.length + 16 * i by omega, List.take_append]
      rw [List.take_of_length_le (by omega)]
      simp
theorem flat_row {R : List (List Int)} (h : ∀ L ∈ R, L.length = 16) {i : Nat} (hi : i < R.length) : (R.flatten.drop (16 * i)).take 16 = R[i] := by
  rw [flat_drop h, List.drop_eq_getElem_cons hi, List.flatten_cons, List.take_append, List.take_of_length_le (by rw [h _ (List.getElem_mem hi)]; exact Nat.le_refl _), h _ (List.getElem_mem hi)]
  simp
theorem flat_get {R : List (List Int)} (h : ∀ L ∈ R, L.length = 16) {i k : Nat} (hi : i < R.length) (hk : k < 16) : R.flatten[16 * i + k]? = R[i][k]? := by
  have := flat_row h hi
  rw [← this, List.getElem?_take, if_pos hk, List.getElem?_drop]
theorem flat_setRow {R : List (List Int)} (h : ∀ L ∈ R, L.length = 16) {i : Nat} (hi : i < R.length) (L : List Int) : R.flatten.take (16 * i) ++ L ++ R.flatten.drop (16 * i + 16) = (R.set i L).flatten := by
  rw [show 16 * i + 16 = 16 * (i + 1) by omega, flat_take h, flat_drop h, List.set_eq_take_append_cons_drop, if_pos hi, List.flatten_append, List.flatten_cons, List.append_assoc]
theorem flat_set {R : List (List Int)} (h : ∀ L ∈ R, L.length = 16) {i k : Nat} (hi : i < R.length) (hk : k < 16) (v : Int) : R.flatten.set (16 * i + k) v = (R.set i (R[i].set k v)).flatten := by
  have hl := flat_len h
  rw [← flat_setRow h hi]
  have hrow := flat_row h hi
  have hd : R.flatten = R.flatten.take (16 * i) ++ R[i] ++ R.flatten.drop (16 * i + 16) := by
    rw [← hrow, List.append_assoc, ← List.drop_drop, List.take_append_drop, List.take_append_drop]
  have ht : (R.flatten.take (16 * i)).length = 16 * i := by rw [List.length_take]; omega
  have hri : R[i].length = 16 := h _ (List.getElem_mem hi)
  conv => lhs; rw [hd]
  rw [List.append_assoc, List.set_append_right _ _ (by omega), ht, Nat.add_sub_cancel_left, List.set_append_left _ _ (by omega), List.append_assoc]
theorem arr_splice (D L : List Int) (o : Nat) : ((arr D).toList.take o ++ (arr L).toList ++ (arr D).toList.drop (o + (arr L).size)).toArray = arr (D.take o ++ L ++ D.drop (o + L.length)) := by
  simp [arr, ints, List.map_take, List.map_drop]
theorem arr_extract (D : List Int) (o n : Nat) : (arr D).extract o (o + n) = arr ((D.drop o).take n) := by
  apply Array.toList_inj.1
  simp [arr, ints, List.map_take, List.map_drop]
theorem arr_flat_row {R : List (List Int)} (h : ∀ L ∈ R, L.length = 16) {i : Nat} (hi : i < R.length) : (arr R.flatten).extract (i * 16) (i * 16 + 16) = arr R[i] := by
  rw [arr_extract, Nat.mul_comm i 16, flat_row h hi]
theorem arr_flat_store {R : List (List Int)} (h : ∀ L ∈ R, L.length = 16) {i : Nat} (hi : i < R.length) {L : List Int} (hL : L.length = 16) :
    ((arr R.flatten).toList.take (16 * i) ++ (arr L).toList ++ (arr R.flatten).toList.drop (16 * i + (arr L).size)).toArray = arr (R.set i L).flatten := by
  rw [arr_splice, hL, flat_setRow h hi]
theorem sq_set {R : List (List Int)} (h : Sq R) (i : Nat) {L : List Int} (hL : L.length = 16) : Sq (R.set i L) := by
  refine ⟨by rw [List.length_set]; exact h.1, fun M hM => ?_⟩
  rcases List.mem_or_eq_of_mem_set hM with h1 | h1
  · exact h.2 M h1
  · rw [h1]; exact hL
theorem sq_len {R : List (List Int)} (h : Sq R) : R.flatten.length = 256 := by rw [flat_len h.2, h.1]
end Go.Proofs.Ythafbdpeignccaa
namespace Go.Proofs.Ythafbdpeignccaa
open Go.RowKit NP
set_option maxRecDepth 8000
set_option linter.unusedVariables false
set_option linter.unusedSimpArgs false
def gRow (g : List Int × Int) : List Int := pad g.1 ++ [g.2]
def gRows (G : List (List Int × Int)) : List (List Int) := G.map gRow
theorem gRow_len {g : List Int × Int} (h : valid g.1 = true) : (gRow g).length = 17 := by unfold gRow; rw [List.length_append, pad_len (valid_bd h).2.2.2]; rfl
theorem gRow_last {g : List Int × Int} (h : valid g.1 = true) : (gRow g)[16]? = some g.2 := by
  unfold gRow
  rw [List.getElem?_append_right (by rw [pad_len (valid_bd h).2.2.2]; omega), pad_len (valid_bd h).2.2.2]; rfl
theorem gRow_first {g : List Int × Int} (h : valid g.1 = true) {j : Nat} (hj : j < (pad g.1).length) : (pad g.1)[j]? = (gRow g)[0 + j]? := by
  unfold gRow
  rw [Nat.zero_add, List.getElem?_append_left hj]
theorem gRow_set {g : List Int × Int} (h : valid g.1 = true) (x : Int) : (gRow g).set 16 x = gRow (g.1, x) := by
  unfold gRow
  rw [List.set_append_right _ _ (by rw [pad_len (valid_bd h).2.2.2]; omega), pad_len (valid_bd h).2.2.2]; rfl
theorem gRows_set {G : List (List Int × Int)} {k : Nat} (g : List Int × Int) : (gRows G).set k (gRow g) = gRows (G.set k g) := by unfold gRows; rw [List.map_set]
theorem gRows_len (G : List (List Int × Int)) : (gRows G).length = G.length := by simp [gRows]
theorem gRows_at {G : List (List Int × Int)} {k : Nat} (hk : k < G.length) : (gRows G)[k]'(by rw [gRows_len]; exact hk) = gRow G[k] := by simp [gRows]
theorem T_gr : (Try.prog.info? 92).map (·.size) = some 17 := by kernel_rfl
theorem T_grinfo : ∃ i : TypeInfo, Try.prog.info? 92 = some i ∧ i.zero = some (.agg (arr (List.replicate 17 0))) ∧ i.size = 17 ∧ i.bytes = 136 := by
  refine ⟨_, rfl, ?_, ?_, ?_⟩ <;> kernel_rfl
theorem rangeAt_dr {w w' : World} (h : Dr w w') {b o : Nat} {cs : List Value} (hr : w.rangeAt b o cs) : w'.rangeAt b o cs := by obtain ⟨n, rfl⟩ := h; exact hr
theorem rangeAt_blk {w : World} {g : Nat} {t : TypeId} {L M : List Int} (h : Blk w g t (arr L)) (o : Nat) (hm : ∀ j, j < M.length → M[j]? = L[o + j]?) : w.rangeAt g o (ints M) := fun i v hv => by
  have hi' : i < M.length := by have := (List.getElem?_eq_some_iff.1 hv).1; simpa using this
  rw [h.cell (o + i)]
  have e := hm i hi'
  unfold arr ints
  unfold ints at hv
  rw [List.getElem?_map] at hv
  rw [List.getElem?_toArray, List.getElem?_map, ← e]; exact hv
theorem cell_dr {w w' : World} (h : Dr w w') {p : Addr} {v : Value} (hc : w.cell? p = some v) : w'.cell? p = some v := by obtain ⟨n, rfl⟩ := h; exact hc
theorem froz_dr {w w' : World} (h : Dr w w') {p : Addr} {b : Bool} (hc : w.frozen? p = b) : w'.frozen? p = b := by obtain ⟨n, rfl⟩ := h; exact hc
theorem gb_dr {w a b : World} {row : Option Nat} (h : w.grownBy a row) (hd : Dr a b) : w.grownBy b row := by obtain ⟨n, rfl⟩ := hd; exact ⟨h.1, h.2, h.3, h.4, h.5⟩
theorem gb_set {w a : World} {row : Option Nat} (h : w.grownBy a row) {p : Addr} (hp : row = some p.block) (u : Value) : w.grownBy (a.setCell p u) row :=
  ⟨h.1, h.2, h.3, by simpa [World.setCell] using h.4, fun k hk hne => (Below.heap_setCell a p u k (fun e => hne (by rw [hp, e]))).trans (h.5 k hk hne)⟩
theorem gb_trans {a b c : World} {row : Option Nat} (h : a.grownBy b row) (k : b.grownBy c row) : a.grownBy c row :=
  ⟨k.1.trans h.1, k.2.trans h.2, k.3.trans h.3, Nat.le_trans h.4 k.4, fun i hi hne => (k.5 i (Nat.lt_of_lt_of_le hi h.4) hne).trans (h.5 i hi hne)⟩
theorem fold17a (x0 x1 x2 x3 x4 x5 x6 x7 x8 x9 x10 x11 x12 x13 x14 x15 x16 : Int) : Array.foldl (fun (cs : Array Value) (x : Value × Nat) => cs.setIfInBounds x.snd x.fst) #[.int .i64 0, .int .i64 0, .int .i64 0, .int .i64 0, .int .i64 0, .int .i64 0, .int .i64 0, .int .i64 0, .int .i64 0, .int .i64 0, .int .i64 0, .int .i64 0, .int .i64 0, .int .i64 0, .int .i64 0, .int .i64 0, .int .i64 0] (arr [x0, x1, x2, x3, x4, x5, x6, x7, x8, x9, x10, x11, x12, x13, x14, x15, x16]).zipIdx 0 17 = arr [x0, x1, x2, x3, x4, x5, x6, x7, x8, x9, x10, x11, x12, x13, x14, x15, x16] := by kernel_rfl
theorem fold17 (L : List Int) (h : L.length = 17) : Array.foldl (fun (cs : Array Value) (x : Value × Nat) => cs.setIfInBounds x.snd x.fst) #[.int .i64 0, .int .i64 0, .int .i64 0, .int .i64 0, .int .i64 0, .int .i64 0, .int .i64 0, .int .i64 0, .int .i64 0, .int .i64 0, .int .i64 0, .int .i64 0, .int .i64 0, .int .i64 0, .int .i64 0, .int .i64 0, .int .i64 0] (arr L).zipIdx 0 17 = arr L := by
  match L, h with
  | [x0, x1, x2, x3, x4, x5, x6, x7, x8, x9, x10, x11, x12, x13, x14, x15, x16], _ => exact fold17a x0 x1 x2 x3 x4 x5 x6 x7 x8 x9 x10 x11 x12 x13 x14 x15 x16
theorem exec_loadR {P : Program} {ev : Operand → Value} {o : Oper} {w : World} {v : Value} (ty : TypeId) (x : Operand) (ho : o.op = .load ty x) (p : Addr) (hx : ev x = .pointer (some p)) (hrun : (loadVar ty p).run P w = .ok v w) :
    (execOp ev o).run P w = .ok (.value v) w := by
  simp only [execOp, ho, Instr.loadAt, hx, Instr.sureAddr, Sem.run_bind, Sem.run_pure, Result.andThen_ok, hrun]
theorem run_load_part {P : Program} (w : World) (b o : Nat) (ty : TypeId) (M : List Int) (d : TypeDesc) (hc : w.rangeAt b o (ints M)) (hu : P.underlying ty = some d) (hd : d.isRow = true) (hi : (P.info? ty).map (·.size) = some M.length) : (loadVar ty ⟨b, o, none⟩).run P w = .ok (.agg (arr M)) w := by
  have := run_loadVar_mid (P := P) w b o ty (ints M) d hc hu hd (by simpa [ints] using hi)
  exact this
set_option maxRecDepth 100000 in
set_option maxHeartbeats 4000000 in
theorem addGrowth_any (lo hi : Nat) (v : Value) (G : List (List Int × Int)) (S : List Int) (x : Int) (hG : ∀ g ∈ G, valid g.1 = true ∧ 0 ≤ g.2 ∧ g.2 ≤ 100000) (hS : valid S = true) (hx : 0 ≤ x ∧ x ≤ 100000) (hl : G.length ≤ 100000) (w : World) (h : OwnW w lo hi 92 17 v (gRows G)) (hlo : lo ≤ w.heap.size) :
    Calls Try.prog 121 #[v, .agg (arr (gRow (S, x)))] w fun e w' => ∃ v', e = .returned v' ∧ OwnW w' lo w'.heap.size 92 17 v' (gRows (addG G S x)) ∧ w.grownBy w' v.ownBlock ∧ (∀ g, v'.ownBlock = some g → v.ownBlock = some g ∨ w.heap.size ≤ g) := by
  obtain ⟨i0, hi0, hz0, hz1, hz2⟩ := T_grinfo
  have hmx : Try.prog.follows .mixedOrders = true := by kernel_rfl
  have hiG : (Try.prog.info? 92).map (·.size) = some (arr (gRow (S, x))).size := by rw [arr_size, gRow_len hS]; exact T_gr
  have hi16 : (Try.prog.info? 59).map (·.size) = some (pad S).length := by rw [pad_len (valid_bd hS).2.2.2]; exact T_info35
  have hl16 := pad_len (valid_bd hS).2.2.2
  have hb1 := Blk.new w 92 (arr (gRow (S, x)))
  obtain ⟨w1, hw1⟩ : ∃ w1, w.alloc (.cells (arr (gRow (S, x))) 92) = w1 := ⟨_, rfl⟩
  rw [hw1] at hb1
  have h1 : OwnW w1 lo hi 92 17 v (gRows G) := by rw [← hw1]; exact h.alloc _
  have hg1 : w.grownBy w1 v.ownBlock := by rw [← hw1]; exact World.grownBy_alloc w _ _
  have hz1' := hb1.lt
  have hfn : ∀ g, v.ownBlock = some g → g < w.heap.size := fun g hg => Nat.lt_of_lt_of_le (h.lt g hg) h.le
  have HFN := Lib.hid hfn
  have hlen := gRows_len G
  have HLEN := Lib.hid hlen
  obtain ⟨aV, cV, rfl⟩ := h.form
  rw [hlen] at h1 h hg1 HFN ⊢
  have HS := Lib.hid hS
  have HG := Lib.hid hG
  have H1 := Lib.hid h1
  clear hfn h h1 hG hlen hS
  go_enter Try.func121, Try.ntmps121
  go_wp2_with fail
  try rw [hw1]
  go_loopw [8] (fun ii wr => ∃ k : Nat, ii = .int .i64 (k : Int) ∧ k ≤ G.length ∧ Dr w1 wr ∧ Hid (∀ j (h : j < G.length), j < k → G[j].1 ≠ S)) (fun ii _ => G.length - (intOf ii).toNat)
  case atStart => exact ⟨0, rfl, Nat.zero_le _, Dr.refl _, Lib.hid (fun j _ hj => by omega)⟩
  case round =>
    obtain ⟨k, rfl, hk, hdr, HN⟩ := hrel
    by_cases hlt : k < G.length
    · have hlt' : (k : Int) < (G.length : Int) := by omega
      have hge := HG.out G[k] (List.getElem_mem hlt)
      have hkR : k < (gRows G).length := by rw [HLEN.out]; exact hlt
      obtain ⟨gV, c', hvv, hlo2, hhi2, hrange, hfz⟩ := H1.out.range hkR
      obtain ⟨_, _, hvv2, _, _, hcells, _⟩ := H1.out.at_ hkR
      injection hvv with hvv hvn hvc
      subst hvv
      injection hvv2 with hvv2 hvn2 hvc2
      injection hvv2 with hvv2
      injection hvv2 with hvv2
      subst hvv2
      clear hvn hvc hvn2 hvc2
      have hrow := gRows_at hlt
      rw [hrow] at hrange hcells
      have hT16 := pad_len (valid_bd hge.1).2.2.2
      have hR0 := hrange 0 (pad G[k].1) (by omega) (fun j hj => gRow_first hge.1 hj)
      have hC16 := hcells 16 G[k].2 (by omega) (gRow_last hge.1)
      have hBR : w1.rangeAt w.heap.size 0 (ints (pad S)) := rangeAt_blk hb1 0 (fun j hj => gRow_first (g := (S, x)) HS.out hj)
      have hBC : w1.cell? ⟨w.heap.size, 16, none⟩ = some (.int .i64 x) := by
        rw [hb1.cell 16]
        unfold arr ints
        rw [List.getElem?_toArray, List.getElem?_map, gRow_last (g := (S, x)) HS.out]; rfl
      have hfz16 := hfz (k * 17 + 16)
      have hi16' : (Try.prog.info? 59).map (·.size) = some (pad G[k].1).length := by rw [hT16]; exact T_info35
      have HEQ : Hid ((pad G[k].1 = pad S) ↔ G[k].1 = S) := Lib.hid (pad_inj hge.1 HS.out)
      have HGE := Lib.hid hge
      have HROW := Lib.hid hrow
      obtain ⟨T, hT⟩ : ∃ T, G[k].1 = T := ⟨_, rfl⟩
      obtain ⟨y, hy⟩ : ∃ y, G[k].2 = y := ⟨_, rfl⟩
      have hyb := hge.2
      rw [hT] at hR0 hi16' HEQ hT16
      rw [hy] at hC16 hyb
      have HT := Lib.hid hT
      have HY := Lib.hid hy
      clear hrange hcells hge hrow hT hy hfz
      rw [Nat.add_zero] at hR0
      go_wp2_with fail
      refine wp_region_vals [0, 1, 2, 3, 4, 5, 6, 7] [.slice (some ⟨gV, 0, none⟩) G.length cV, .int .i64 k, .pointer (some ⟨gV, k * 17, none⟩), .pointer (some ⟨gV, k * 17, none⟩), .agg (arr (pad T)), .pointer (some ⟨w.heap.size, 0, none⟩), .agg (arr (pad S)), .bool (decide (pad T = pad S))] (fun w' => Dr wr w') _ hmx (fun _ h => h) rfl rfl (by kernel_rfl) (by kernel_rfl) rfl ?steps ?rest
      case steps =>
        simp only [putsOfG, Act.put, List.getElem?_toArray, List.getElem?_cons_succ, List.getElem?_cons_zero, Option.bind_some, Nat.reduceAdd, List.setIfInBounds_toArray, List.set_cons_zero, List.set_cons_succ]
        refine StepsG.cons rfl rfl (fun wq hS => ?_) ?_
        · go_simp
        refine StepsG.cons rfl rfl (fun wq hS => ?_) ?_
        · go_simp
        refine StepsG.cons rfl rfl (fun wq hS => ?_) ?_
        · go_simp
        refine StepsG.cons rfl rfl (fun wq hS => ?_) ?_
        · go_simp
        refine StepsG.cons rfl rfl (fun wq hS => ?_) ?_
        · have s1 := rangeAt_dr (hdr.trans hS) hR0
          show Oper.wp _ _ _ _ _ _
          unfold Oper.wp
          rw [exec_loadR 59 (.tmp 14) rfl ⟨gV, k * 17, none⟩ rfl (run_load_part wq gV (k * 17) 59 (pad T) _ s1 Try.underlying59 rfl hi16')]
          exact ⟨rfl, hS⟩
        refine StepsG.cons rfl rfl (fun wq hS => ?_) ?_
        · go_simp
        refine StepsG.cons rfl rfl (fun wq hS => ?_) ?_
        · have s1 := rangeAt_dr (hdr.trans hS) hBR
          unfold Oper.wp
          rw [exec_loadR 59 (.tmp 16) rfl ⟨w.heap.size, 0, none⟩ rfl (run_load_part wq w.heap.size 0 59 (pad S) _ s1 Try.underlying59 rfl hi16)]
          exact ⟨rfl, hS⟩
        refine StepsG.cons rfl rfl (fun wq hS => ?_) ?_
        · unfold Oper.wp
          rw [exec_eql 59 59 (.tmp 15) (.tmp 17) rfl rfl rfl T_guardD (T_eqD 9998 (pad T) (pad S) hT16 hl16 wq)]
          exact ⟨rfl, hS⟩
        exact StepsG.nil
      case rest =>
        intro wq hS1
        simp only [putsOfG, Act.put, List.getElem?_toArray, List.getElem?_cons_succ, List.getElem?_cons_zero, Option.bind_some, Nat.reduceAdd, List.setIfInBounds_toArray, List.set_cons_zero, List.set_cons_succ]
        have hdq := hdr.trans hS1
        by_cases he : T = S
        · have hdec : decide (pad T = pad S) = true := decide_eq_true (HEQ.out.2 he)
          rw [hdec]
          have hws : IntKind.i64.wrap (y + x) = y + x := IntWalk.i64_in _ (by omega)
          clear hdec
          go_wp2_with fail
          refine wp_region_store [0, 1, 2, 3, 4, 5, 6, 7, 8, 9] [.slice (some ⟨gV, 0, none⟩) G.length cV, .int .i64 k, .pointer (some ⟨gV, k * 17, none⟩), .pointer (some ⟨gV, k * 17 + 16, none⟩), .int .i64 y, .pointer (some ⟨w.heap.size, 16, none⟩), .int .i64 x, .int .i64 (y + x), .pointer (some ⟨gV, k * 17, none⟩), .pointer (some ⟨gV, k * 17 + 16, none⟩)] (fun w' => Dr wq w') _ hmx (fun _ h => h) rfl (by kernel_rfl) (by kernel_rfl) rfl rfl (by kernel_rfl) (by kernel_rfl) _ rfl rfl rfl 3 _ _ rfl ⟨gV, k * 17 + 16, none⟩ (.int .i64 (y + x)) ?hx ?hy ?run ?steps ?rest
          case hx => simp only [putsOfG, Act.put, List.getElem?_toArray, List.getElem?_cons_succ, List.getElem?_cons_zero, Option.bind_some, Nat.reduceAdd, List.setIfInBounds_toArray, List.set_cons_zero, List.set_cons_succ]; rfl
          case hy => simp only [putsOfG, Act.put, List.getElem?_toArray, List.getElem?_cons_succ, List.getElem?_cons_zero, Option.bind_some, Nat.reduceAdd, List.setIfInBounds_toArray, List.set_cons_zero, List.set_cons_succ]; rfl
          case run =>
            intro wp hS
            have s1 := cell_dr (hdq.trans hS) hC16
            have s3 := froz_dr (hdq.trans hS) hfz16
            go_simp
          case steps =>
            simp only [putsOfG, Act.put, List.getElem?_toArray, List.getElem?_cons_succ, List.getElem?_cons_zero, Option.bind_some, Nat.reduceAdd, List.setIfInBounds_toArray, List.set_cons_zero, List.set_cons_succ]
            refine StepsG.cons rfl rfl (fun wq hS => ?_) ?_
            · go_simp
            refine StepsG.cons rfl rfl (fun wq hS => ?_) ?_
            · go_simp
            refine StepsG.cons rfl rfl (fun wq hS => ?_) ?_
            · go_simp
            refine StepsG.cons rfl rfl (fun wq hS => ?_) ?_
            · go_simp
            refine StepsG.cons rfl rfl (fun wq hS => ?_) ?_
            · have s1 := cell_dr (hdq.trans hS) hC16
              go_simp
            refine StepsG.cons rfl rfl (fun wq hS => ?_) ?_
            · go_simp
            refine StepsG.cons rfl rfl (fun wq hS => ?_) ?_
            · have s1 := cell_dr (hdq.trans hS) hBC
              go_simp
            refine StepsG.cons rfl rfl (fun wq hS => ?_) ?_
            · go_simp
            refine StepsG.cons rfl rfl (fun wq hS => ?_) ?_
            · go_simp
            refine StepsG.cons rfl rfl (fun wq hS => ?_) ?_
            · go_simp
            exact StepsG.nil
          case rest =>
            intro wp hS
            simp only [putsOfG, Act.put, List.getElem?_toArray, List.getElem?_cons_succ, List.getElem?_cons_zero, Option.bind_some, Nat.reduceAdd, List.setIfInBounds_toArray, List.set_cons_zero, List.set_cons_succ]
            have hdp := hdq.trans hS
            have hO := (H1.out.dr hdp).set hkR (show 16 < 17 by omega) (y + x)
            have hfin : (gRows G).set k ((gRows G)[k].set 16 (y + x)) = gRows (addG G S x) := by
              rw [HROW.out, gRow_set HGE.out.1, gRows_set, addG_at hlt HN.out (by rw [HT.out]; exact he), HT.out, he, HY.out]
            rw [hfin] at hO
            have hgb := gb_set (p := ⟨gV, k * 17 + 16, none⟩) (gb_dr hg1 hdp) rfl (.int .i64 (y + x))
            have HO := Lib.hid hO
            clear hO hfin
            go_wp2_with fail
            go_ret
            exact ⟨_, rfl, HO.out.more, hgb, fun g hg => .inl hg⟩
        · have hdec : decide (pad T = pad S) = false := decide_eq_false (fun e => he (HEQ.out.1 e))
          rw [hdec]
          clear hdec
          go_wp2_with fail
          go_roundw
          case rel => exact ⟨k + 1, by go_num, by omega, hdq, Lib.hid (fun j hj h1 => by
            rcases Nat.lt_or_ge j k with h3 | h3
            · exact HN.out j hj h3
            · obtain rfl : j = k := by omega
              rw [HT.out]; exact he)⟩
          case measure => simp [intOf] <;> omega
    · obtain rfl : k = G.length := by omega
      have HADD : Hid (addG G S x = G ++ [(S, x)]) := Lib.hid (addG_new fun j hj => HN.out j hj hj)
      clear hlt
      have hb2 : Blk wr w.heap.size 92 (arr (gRow (S, x))) := by obtain ⟨n, rfl⟩ := hdr; exact hb1
      have hO := H1.out.dr hdr
      have hzr : w1.heap.size = wr.heap.size := hdr.size.symm
      have hgr := gb_dr hg1 hdr
      have hL17 := gRow_len (g := (S, x)) HS.out
      have HLL := Lib.hid hL17
      have HO := Lib.hid hO
      have hRl : (gRows G).length ≤ 100000 := by rw [HLEN.out]; exact hl
      have hlo2 : lo ≤ wr.heap.size := by omega
      have HF : Hid (∀ (v' : Value) (a : World), (v'.ownBlock = (Value.slice aV G.length cV).ownBlock ∨ v'.ownBlock = some a.heap.size) → w.heap.size ≤ a.heap.size → ∀ g, v'.ownBlock = some g → (Value.slice aV G.length cV).ownBlock = some g ∨ w.heap.size ≤ g) := Lib.hid (fun v' a h1 h2 g hg => by
        rcases h1 with h1 | h1
        · left; rw [← h1]; exact hg
        · right; rw [h1] at hg; injection hg with hg; omega)
      have hzw : w.heap.size ≤ wr.heap.size := by omega
      have HAR : Hid (gRows (addG G S x) = gRows G ++ [gRow (S, x)]) := Lib.hid (by rw [HADD.out]; simp [gRows])
      have hsz17 : (arr (gRow (S, x))).size = 17 := by rw [arr_size, hL17]
      have HFOLD := Lib.hid (fold17 _ hL17)
      clear hzr hL17 hO
      go_wp2_with (first
        | (refine wpList_load_row rfl 92 (.tmp 3) rfl w.heap.size rfl 92 (arr (gRow (S, x))) (0, 0) _ hb2 Try.underlying92 rfl hiG ?_)
        | (at_builtin; (try rw [HFOLD.out]); refine wpList_append_w rfl (.tmp 31) (.tmp 33) 93 rfl lo _ 92 i0 _ 17 136 Try.underlying93 hi0 hz0 hz1 hz2 (by simp [Value.cells, arr, ints]) (by omega) _ (gRows G) rfl (HO.out.alloc _) (by simp <;> omega) wr.heap.size _ (gRow (S, x)) rfl HLL.out ?hrg hRl (by omega) ?_; rotate_left; intro v' w2 ho2 hg2 hat2))
      · go_ret
        exact ⟨v', rfl, by rw [HAR.out]; exact ho2, gb_trans hgr (gb_trans (World.grownBy_alloc wr _ _) hg2), HF.out v' _ hat2 (by simp <;> omega)⟩
      · exact rangeAt_blk (Blk.new wr 92 (arr (gRow (S, x)))) 0 (fun j hj => by rw [Nat.zero_add])
end Go.Proofs.Ythafbdpeignccaa
namespace Go.Proofs.Ythafbdpeignccaa
open Go.RowKit NP
set_option maxRecDepth 8000
set_option linter.unusedVariables false

theorem scorners_any (a : Option Addr) (c B : Nat) (L : List Int) (w : World) (h : Rd w B a (ints L)) (hB : B ≤ w.heap.size) (hl : L.length ≤ 1000) :
    Calls Try.prog 106 #[.slice a L.length c] w fun e w' => ∃ a' c', e = .returned (.slice a' (crn L).length c') ∧ Own w' w.heap.size w'.heap.size 3 (.slice a' (crn L).length c') (ints (crn L)) ∧ Below w.heap.size w w' := by
  obtain ⟨i0, hi, hz0, hz1, hz2⟩ := T_int'
  go_enter Try.func106, Try.ntmps106
  go_wp2_with fail
  go_loopw [3, 4] (fun v i wr => ∃ k : Nat, k ≤ L.length ∧ i = .int .i64 (k : Int) ∧ Below w.heap.size w wr ∧ Own wr w.heap.size wr.heap.size 3 v (ints (crnTo L k))) (fun _ i _ => L.length - (intOf i).toNat)
  case atStart => exact ⟨0, Nat.zero_le _, rfl, (Below.refl _ _).alloc (Nat.le_refl _) _, (Own.empty w 3).more⟩
  case round =>
    obtain ⟨k, hk, rfl, hbel, hown⟩ := hrel
    by_cases hlt : k < L.length
    · have hR := (h.more hB).below hbel
      obtain ⟨b, o, rfl, _, hc0⟩ := hR.at_ hlt
      have hlen2 : (crnTo L k).length ≤ k := crnTo_len L k
      have HS := Lib.hid (crnTo_succ L k)
      obtain ⟨vs, hvs⟩ : ∃ vs, vs = ints (crnTo L k) := ⟨_, rfl⟩
      have hlv : vs.length ≤ k := by rw [hvs]; simpa using hlen2
      rw [← hvs] at hown
      have HVS := Lib.hid hvs
      clear hvs hlen2
      have HO := Lib.hid hown
      clear hown
      by_cases h1 : k + 1 = L.length
      · have h1' : (k : Int) + 1 = (L.length : Int) := by omega
        have e1 : ((k : Int) + 1 == (L.length : Int)) = true := beq_iff_eq.2 h1'
        have HC : Hid (isC L k = true) := Lib.hid (by unfold isC; rw [decide_eq_true h1, Bool.true_or])
        clear h1 h1'
        go_wp2_with fail
        go_quiet (fail)
        go_wp2_with (at_builtin; go_loud (refine wpList_append_o _ rfl (.tmp 29) (.tmp 31) 22 rfl w.heap.size wr.heap.size 3 i0 (.int .i64 0) 8 Try.underlying22 hi hz0 hz1 hz2 rfl _ vs rfl ((HO.out.drewN _).alloc _) (wr.heap.size + 1) (some ⟨wr.heap.size, 0, none⟩) 1 1 [.int .i64 (k : Int)] rfl (Rd.one _ _ _) rfl (by simp; rfl) (by unfold maxLen; omega) (by omega) (by have := hbel.size; simp; omega) ?_); intro v' w1 ho1 hg1 hat1)
        go_roundw
        case rel =>
          refine ⟨k + 1, by omega, by go_num, below_push (hbel.trans ((Dr.n wr _).below _)) (Nat.le_refl _) hg1 HO.out.base, ?_⟩
          rw [HVS.out] at ho1
          rw [HS.out, if_pos HC.out]
          simpa [ints] using ho1
        case measure => simp [intOf]; omega
      · have hk1 : k + 1 < L.length := by omega
        have e1 : ((k : Int) + 1 == (L.length : Int)) = false := beq_eq_false_iff_ne.2 (by omega)
        obtain ⟨b', o', e', -, hc1⟩ := hR.at_ hk1
        injection e' with e'; injection e' with e2 e3; subst e2 e3
        by_cases hx : L[k + 1] < L[k]
        · have HC : Hid (isC L k = true) := Lib.hid (by unfold isC; rw [List.getD_eq_getElem?_getD, List.getD_eq_getElem?_getD, List.getElem?_eq_getElem hk1, List.getElem?_eq_getElem hlt, Option.getD_some, Option.getD_some, decide_eq_true hx, Bool.or_true])
          clear h1
          go_wp2_with fail
          go_quiet (fail)
          go_wp2_with (at_builtin; go_loud (refine wpList_append_o _ rfl (.tmp 29) (.tmp 31) 22 rfl w.heap.size wr.heap.size 3 i0 (.int .i64 0) 8 Try.underlying22 hi hz0 hz1 hz2 rfl _ vs rfl ((HO.out.drewN _).alloc _) (wr.heap.size + 1) (some ⟨wr.heap.size, 0, none⟩) 1 1 [.int .i64 (k : Int)] rfl (Rd.one _ _ _) rfl (by simp; rfl) (by unfold maxLen; omega) (by omega) (by have := hbel.size; simp; omega) ?_); intro v' w1 ho1 hg1 hat1)
          go_roundw
          case rel =>
            refine ⟨k + 1, by omega, by go_num, below_push (hbel.trans ((Dr.n wr _).below _)) (Nat.le_refl _) hg1 HO.out.base, ?_⟩
            rw [HVS.out] at ho1
            rw [HS.out, if_pos HC.out]
            simpa [ints] using ho1
          case measure => simp [intOf]; omega
        · have HC : Hid (isC L k = false) := Lib.hid (by unfold isC; rw [List.getD_eq_getElem?_getD, List.getD_eq_getElem?_getD, List.getElem?_eq_getElem hk1, List.getElem?_eq_getElem hlt, Option.getD_some, Option.getD_some, decide_eq_false hx, decide_eq_false h1]; rfl)
          clear h1
          have hx' : L[k] ≤ L[k + 1] := by omega
          clear hx
          go_wp2_with fail
          go_quiet (fail)
          go_wp2
          go_roundw
          case rel =>
            refine ⟨k + 1, by omega, by go_num, hbel.trans ((Dr.n wr _).below _), ?_⟩
            rw [HS.out, if_neg (by rw [HC.out]; decide), List.append_nil, ← HVS.out]
            exact HO.out.drewN _
          case measure => simp [intOf]; omega
    · obtain rfl : k = L.length := by omega
      obtain ⟨a', c', rfl⟩ := hown.form
      have HO := Lib.hid hown
      clear hown
      go_wp2
      go_ret
      have hlc : (crn L).length = (ints (crnTo L L.length)).length := by simp [crn]
      refine ⟨a', c', by rw [hlc]; rfl, ?_, hbel⟩
      rw [hlc]
      exact HO.out


theorem isCorner_any (D : List Int) (hD : D.length = 16) (i : Nat) (hi : i < 16) (w : World) :
    Calls Try.prog 75 #[.agg (arr D), .int .i64 i] w fun e w' => e = .returned (.bool (isCD D i)) ∧ Below w.heap.size w w' := by
  have hiD : i < D.length := by omega
  have hc := box_cell w D i hiD
  have hi' : (i : Int) < 16 := by omega
  have g0 : D.getD i 0 = D[i] := by rw [List.getD_eq_getElem?_getD, List.getElem?_eq_getElem hiD, Option.getD_some]
  by_cases h0 : 0 < D[i]
  · by_cases h15 : i = 15
    · have e1 : ((i : Int) == 15) = true := beq_iff_eq.2 (by omega)
      have HC : Hid (isCD D i = true) := Lib.hid (by unfold isCD; rw [g0, decide_eq_true h0, decide_eq_true h15]; rfl)
      clear h15 g0
      go_enter Try.func75, Try.ntmps75
      go_wp2_with fail
      go_quiet (fail)
      go_wp2
      go_ret
      exact ⟨ret_bool HC.out.symm, ((Below.refl _ _).alloc (Nat.le_refl _) _).trans ((Dr.n _ _).below _)⟩
    · have e1 : ((i : Int) == 15) = false := beq_eq_false_iff_ne.2 (by omega)
      have hi1 : i + 1 < D.length := by omega
      have hc1 := box_cell w D (i + 1) hi1
      have HC : Hid (isCD D i = decide (D[i + 1] < D[i])) := Lib.hid (by unfold isCD; rw [g0, List.getD_eq_getElem?_getD, List.getElem?_eq_getElem hi1, Option.getD_some, decide_eq_true h0, decide_eq_false h15]; rfl)
      clear h15 g0
      go_enter Try.func75, Try.ntmps75
      go_wp2_with fail
      go_quiet (fail)
      go_wp2
      go_ret
      exact ⟨ret_bool HC.out.symm, ((Below.refl _ _).alloc (Nat.le_refl _) _).trans ((Dr.n _ _).below _)⟩
  · have HC : Hid (isCD D i = false) := Lib.hid (by unfold isCD; rw [g0, decide_eq_false h0]; rfl)
    clear g0
    have h0' : decide (0 < D[i]) = false := decide_eq_false h0
    clear h0
    go_enter Try.func75, Try.ntmps75
    go_wp2_with fail
    go_quiet (fail)
    go_wp2
    go_ret
    exact ⟨ret_bool HC.out.symm, ((Below.refl _ _).alloc (Nat.le_refl _) _).trans ((Dr.n _ _).below _)⟩

theorem dcorners_any (D : List Int) (hD : D.length = 16) (w : World) :
    Calls Try.prog 74 #[.agg (arr D)] w fun e w' => ∃ a' c', e = .returned (.slice a' (fl (isCD D) 16).length c') ∧ Own w' w.heap.size w'.heap.size 3 (.slice a' (fl (isCD D) 16).length c') (ints (fl (isCD D) 16)) ∧ Below w.heap.size w w' := by
  obtain ⟨i0, hi, hz0, hz1, hz2⟩ := T_int'
  have HD := Lib.hid hD
  have hd16 : 16 ≤ D.length := by omega
  have hi16 : (Try.prog.info? 59).map (·.size) = some (arr D).size := by rw [arr_size, hD]; exact T_info35
  clear hD
  go_enter Try.func74, Try.ntmps74
  go_wp2
  go_loopw [3, 4, 5] (fun v u i wr => ∃ k : Nat, k ≤ 16 ∧ i = .int .i64 (k : Int) ∧ Below w.heap.size w wr ∧ Blk wr w.heap.size 59 (arr D) ∧ Own wr (w.heap.size + 1) wr.heap.size 3 v (ints (fl (isCD D) k))) (fun _ _ i _ => 20 - (intOf i).toNat)
  case atStart => exact ⟨0, Nat.zero_le _, rfl, (Below.refl _ _).alloc (Nat.le_refl _) _, Blk.new _ _ _, Own.nil _ _ _⟩
  case round =>
    obtain ⟨k, hk, rfl, hbel, hblk, hown⟩ := hrel
    by_cases hlt : k < 16
    · have hlen2 : (fl (isCD D) k).length ≤ k := fl_len _ k
      have HS := Lib.hid (fl_succ (isCD D) k)
      obtain ⟨vs, hvs⟩ : ∃ vs, vs = ints (fl (isCD D) k) := ⟨_, rfl⟩
      have hlv : vs.length ≤ k := by rw [hvs]; simpa using hlen2
      rw [← hvs] at hown
      have HVS := Lib.hid hvs
      clear hvs hlen2
      have HO := Lib.hid hown
      clear hown
      cases hcb : isCD D k with
      | true =>
        have HC := Lib.hid hcb
        clear hcb
        go_wp2_with (first | (refine wpList_load_row rfl 59 (.tmp 1) rfl w.heap.size rfl 59 (arr D) (0, 0) _ hblk Try.underlying59 rfl hi16 ?_) | (go_at_call 75; refine (isCorner_any D HD.out k hlt _).mono ?_; rintro e w2 ⟨rfl, hb2⟩; rw [HC.out]; have ho2 := (HO.out.below hb2).more) | (at_builtin; refine wpList_append_o _ rfl (.tmp 11) (.tmp 13) 22 rfl (w.heap.size + 1) w2.heap.size 3 i0 (.int .i64 0) 8 Try.underlying22 hi hz0 hz1 hz2 rfl _ vs rfl (ho2.alloc _) (w2.heap.size + 1) (some ⟨w2.heap.size, 0, none⟩) 1 1 [.int .i64 (k : Int)] rfl (Rd.one _ _ _) rfl (by simp; rfl) (by unfold maxLen; omega) (by omega) (by have := hbel.size; have := hb2.size; simp; omega) ?_; intro v' w3 ho3 hg3 hat3))
        go_roundw
        case rel =>
          have hz := hbel.size
          have hb12 : Below w.heap.size w w2 := hbel.trans (hb2.mono (by omega))
          have hblk2 : Blk w2 w.heap.size 59 (arr D) := hblk.below hb2 hblk.lt
          refine ⟨k + 1, by omega, by go_num, below_push hb12 (Nat.le_refl _) hg3 (fun g hg => by have := HO.out.base g hg; omega), (hblk2.alloc _).grown hg3 (fun e => by have := HO.out.base _ e.symm; omega), ?_⟩
          rw [HVS.out] at ho3
          rw [HS.out, if_pos HC.out]
          simpa [ints] using ho3
        case measure => simp [intOf]; omega
      | false =>
        have HC := Lib.hid hcb
        clear hcb
        go_wp2_with (first | (refine wpList_load_row rfl 59 (.tmp 1) rfl w.heap.size rfl 59 (arr D) (0, 0) _ hblk Try.underlying59 rfl hi16 ?_) | (go_at_call 75; refine (isCorner_any D HD.out k hlt _).mono ?_; rintro e w2 ⟨rfl, hb2⟩; rw [HC.out]))
        go_roundw
        case rel =>
          refine ⟨k + 1, by omega, by go_num, hbel.trans (hb2.mono (by have := hbel.size; omega)), hblk.below hb2 hblk.lt, ?_⟩
          rw [HS.out, if_neg (by rw [HC.out]; decide), List.append_nil, ← HVS.out]
          exact (HO.out.below hb2).more
        case measure => simp [intOf]; omega
    · obtain rfl : k = 16 := by omega
      obtain ⟨a', c', rfl⟩ := hown.form
      have HO := Lib.hid hown
      clear hown
      go_wp2
      go_ret
      have hlc : (fl (isCD D) 16).length = (ints (fl (isCD D) 16)).length := by simp
      refine ⟨a', c', by rw [hlc]; rfl, ?_, hbel⟩
      rw [hlc]
      exact HO.out.lower (by omega)

theorem iCornersOf_any (a : Option Addr) (c B : Nat) (L : List Int) (w : World) (h : Rd w B a (ints L)) (hB : B ≤ w.heap.size) (hl : L.length ≤ 4611686018427387904) :
    Calls Try.prog 29 #[.slice a L.length c] w fun e w' => ∃ a' c', e = .returned (.slice a' (crnF L).length c') ∧ Own w' w.heap.size w'.heap.size 3 (.slice a' (crnF L).length c') (ints (crnF L)) ∧ Below w.heap.size w w' := by
  have hi16 : (Try.prog.info? 59).map (·.size) = some (arr (dg L)).size := by rw [arr_size, dg_len]; exact T_info35
  have hsz : (arr (dg L)).size = (arr (List.replicate 16 0)).size := by rw [arr_size, arr_size, dg_len]; rfl
  cases hv : valid L with
  | true =>
    have HE := Lib.hid (crnF_yes hv)
    have HP := Lib.hid (crn_pad hv)
    have HD := Lib.hid (dg_yes hv)
    have HV := Lib.hid hv
    go_enter Try.func29, Try.ntmps29
    go_wp2_with (first | (go_at_call 64; refine (diagramOf_any _ _ B L _ h hB hl).mono ?_; rintro e w1 ⟨rfl, hb1⟩) | (refine wpList_store_row rfl 59 (.tmp 3) (.tmp 8) rfl w1.heap.size rfl (arr (dg L)) rfl 59 (arr (List.replicate 16 0)) (Blk.new w1 _ _) hi16 hsz (arr_one _) ?_) | (refine wpList_load_row rfl 59 (.tmp 3) rfl w1.heap.size rfl 59 (arr (dg L)) (0, 0) _ (Blk.new w1 _ _).row Try.underlying59 rfl hi16 ?_) | (go_at_call 74; rw [HD.out]; refine (dcorners_any (pad L) (pad_len (valid_bd HV.out).2.2.2) _).mono ?_; rintro e w2 ⟨a', c', rfl, ho2, hb2⟩))
    go_ret
    rw [HE.out]
    rw [HP.out] at ho2 ⊢
    refine ⟨a', c', rfl, ho2.lower (by have := hb1.size; simp; omega), ?_⟩
    exact (below_setRow' (hb1.alloc hb1.size _) (by exact hb1.size) _).trans (hb2.mono (by have := hb1.size; simp; omega))
  | false =>
    have HE := Lib.hid (crnF_no hv)
    go_enter Try.func29, Try.ntmps29
    go_wp2_with (first | (go_at_call 64; refine (diagramOf_any _ _ B L _ h hB hl).mono ?_; rintro e w1 ⟨rfl, hb1⟩) | (refine wpList_store_row rfl 59 (.tmp 3) (.tmp 8) rfl w1.heap.size rfl (arr (dg L)) rfl 59 (arr (List.replicate 16 0)) (Blk.new w1 _ _) hi16 hsz (arr_one _) ?_))
    go_ret
    rw [HE.out]
    exact ⟨none, 0, rfl, Own.nil _ _ _, below_setRow' (hb1.alloc hb1.size _) (by exact hb1.size) _⟩
end Go.Proofs.Ythafbdpeignccaa
namespace Go.Proofs.Ythafbdpeignccaa
open Go.RowKit NP
set_option maxRecDepth 8000
set_option linter.unusedVariables false
set_option linter.unusedSimpArgs false
theorem wpList_load_part {P : Program} {w : World} {ops : Array Oper} {rest : List Oper} {oo : Oper} {a : Act} {Q : Exit → Act → World → Prop} (hgd : oo.guard = none) (ty : TypeId) (x : Operand) (ho : oo.op = .load ty x)
    (b o : Nat) (hx : a.eval x = .pointer (some ⟨b, o, none⟩)) (M : List Int) (d : TypeDesc) (hc : w.rangeAt b o (ints M)) (hu : P.underlying ty = some d) (hd : d.isRow = true) (hi : (P.info? ty).map (·.size) = some M.length)
    (h : wpList P ops Q rest (a.put oo.dst (.agg (arr M))) w) : wpList P ops Q (oo :: rest) a w :=
  wpList_plain hgd fun _ hK => by
    unfold Oper.wp
    rw [exec_loadR ty x ho ⟨b, o, none⟩ hx (run_load_part w b o ty M d hc hu hd hi)]
    exact hK _ _ h
theorem wpList_execG {P : Program} {w : World} {ops : Array Oper} {rest : List Oper} {o : Oper} {a : Act} {Q : Exit → Act → World → Prop} (hgd : o.guard = none) {v : Value} (h : (execOp a.eval o).run P w = .ok (.value v) w)
    (hk : wpList P ops Q rest (a.put o.dst v) w) : wpList P ops Q (o :: rest) a w :=
  wpList_plain hgd fun _ hK => by
    unfold Oper.wp
    rw [h]
    exact hK _ _ hk
theorem T_buildG0 (e0 e1 e2 e3 e4 e5 e6 e7 e8 e9 e10 e11 e12 e13 e14 e15 x : Int) (w : World) : (Instr.build 92 #[(0, .agg (arr [e0, e1, e2, e3, e4, e5, e6, e7, e8, e9, e10, e11, e12, e13, e14, e15])), (1, .int .i64 x)]).run Try.prog w = .ok (.agg (arr ([e0, e1, e2, e3, e4, e5, e6, e7, e8, e9, e10, e11, e12, e13, e14, e15] ++ [x]))) w := by kernel_rfl
theorem T_buildG (D : List Int) (hD : D.length = 16) (x : Int) (w : World) : (Instr.build 92 #[(0, .agg (arr D)), (1, .int .i64 x)]).run Try.prog w = .ok (.agg (arr (D ++ [x]))) w := by
  match D, hD with
  | [e0, e1, e2, e3, e4, e5, e6, e7, e8, e9, e10, e11, e12, e13, e14, e15], _ => exact T_buildG0 e0 e1 e2 e3 e4 e5 e6 e7 e8 e9 e10 e11 e12 e13 e14 e15 x w
set_option maxRecDepth 100000 in
set_option maxHeartbeats 4000000 in
theorem levelBelow_any (m : Int) (hm : 0 ≤ m ∧ m + 1 ≤ 12) (lo hi : Nat) (v : Value) (G : List (List Int × Int)) (hG : gLv (m + 1) G) (hs : gSum G ≤ 10000) (w : World) (h : OwnW w lo hi 92 17 v (gRows G)) (hlo : lo ≤ w.heap.size) :
    Calls Try.prog 108 #[v] w fun e w' => ∃ v', e = .returned v' ∧ OwnW w' w.heap.size w'.heap.size 92 17 v' (gRows (lvN G G.length)) ∧ Below w.heap.size w w' := by
  obtain ⟨aV, cV, rfl⟩ := h.form
  rw [gRows_len] at h ⊢
  have H := Lib.hid h
  have HG := Lib.hid hG
  have hiGr : ∀ g : List Int × Int, valid g.1 = true → (Try.prog.info? 92).map (·.size) = some (gRow g).length := fun g hg => by rw [gRow_len hg]; exact T_gr
  have HIG := Lib.hid hiGr
  have hGl : G.length ≤ 10000 := by have := (gLv_bd (by omega) hG).1; omega
  clear h hG hiGr
  go_enter Try.func108, Try.ntmps108
  go_wp2_with fail
  go_loopw [3, 11] (fun v3 ii wr => ∃ k : Nat, ii = .int .i64 (k : Int) ∧ k ≤ G.length ∧ OwnW wr w.heap.size wr.heap.size 92 17 v3 (gRows (lvN G k)) ∧ Below w.heap.size w wr) (fun _ ii _ => G.length - (intOf ii).toNat)
  case atStart => exact ⟨0, rfl, Nat.zero_le _, OwnW.nil w _ _ _, Below.refl _ _⟩
  case round =>
    obtain ⟨k, rfl, hk, hO, hbel⟩ := hrel
    have HO := Lib.hid hO
    clear hO
    by_cases hlt : k < G.length
    · have hlt' : (k : Int) < (G.length : Int) := by omega
      have hge := HG.out.1 G[k] (List.getElem_mem hlt)
      have hgb := (gLv_bd (show m + 1 ≤ 12 by omega) HG.out).2 G[k] (List.getElem_mem hlt)
      have hHr := H.out.below (hbel.mono H.out.le)
      obtain ⟨gV, c', hvv, hlo2, hhi2, hrange, -⟩ := hHr.range (k := k) (by rw [gRows_len]; exact hlt)
      injection hvv with hvv hvn hvc
      subst hvv
      clear hvn hvc hHr
      have hrow := gRows_at hlt
      rw [hrow] at hrange
      have hlok := lvN_ok ⟨hm.1, hm.2⟩ HG.out k (by omega)
      have hlok1 := lvN_ok ⟨hm.1, hm.2⟩ HG.out (k + 1) (by omega)
      have hnext := lvN_succ G k hlt
      have htk := gSum_take (show m + 1 ≤ 12 by omega) HG.out (k + 1)
      obtain ⟨⟨S, x⟩, hSx⟩ : ∃ g, G[k] = g := ⟨_, rfl⟩
      rw [hSx] at hge hgb hrange hnext
      have hR0 := hrange 0 (gRow (S, x)) (by rw [gRow_len hge.1]; omega) (fun j hj => by rw [Nat.zero_add])
      rw [Nat.add_zero] at hR0
      have hiL := HIG.out (S, x) hge.1
      have hiG : (Try.prog.info? 92).map (·.size) = some (arr (gRow (S, x))).size := by rw [arr_size, gRow_len hge.1]; exact T_gr
      have hsG : (arr (gRow (S, x))).size = (#[.int .i64 0, .int .i64 0, .int .i64 0, .int .i64 0, .int .i64 0, .int .i64 0, .int .i64 0, .int .i64 0, .int .i64 0, .int .i64 0, .int .i64 0, .int .i64 0, .int .i64 0, .int .i64 0, .int .i64 0, .int .i64 0, .int .i64 0] : Array Value).size := by rw [arr_size, gRow_len hge.1]; rfl
      have hl16 := (valid_bd hge.1).2.2.2
      have hpl := pad_len hl16
      have hi16 : (Try.prog.info? 59).map (·.size) = some (pad S).length := by rw [hpl]; exact T_info35
      have HLV : Hid (gLv m (lvN G k) ∧ lvN G (k + 1) = lvK S x (lvN G k) (crn S).length ∧ gSum (lvN G (k + 1)) ≤ 10000) := Lib.hid ⟨hlok.1, hnext, by rw [hlok1.2]; omega⟩
      have HGE : Hid (valid S = true ∧ sumL S = m + 1 ∧ 1 ≤ x ∧ x ≤ 10000) := Lib.hid ⟨hge.1, hge.2.1, hge.2.2, by simp only at hgb; omega⟩
      have hzr := hbel.size
      clear hrange hrow hge hgb hlok hlok1 hnext htk hSx
      go_wp2_with (first
        | (refine wpList_load_part rfl 92 (.tmp 13) rfl gV (k * 17) rfl (gRow (S, x)) _ hR0 Try.underlying92 rfl hiL ?_)
        | (refine wpList_store_row rfl 92 (.tmp 5) (.tmp 14) rfl wr.heap.size rfl (arr (gRow (S, x))) rfl 92 _ (Blk.new wr _ _) hiG hsG (arr_one _) ?_; have hb5 := (Blk.new wr 92 #[.int .i64 0, .int .i64 0, .int .i64 0, .int .i64 0, .int .i64 0, .int .i64 0, .int .i64 0, .int .i64 0, .int .i64 0, .int .i64 0, .int .i64 0, .int .i64 0, .int .i64 0, .int .i64 0, .int .i64 0, .int .i64 0, .int .i64 0]).row (vs := arr (gRow (S, x))); have hA5 : Below w.heap.size w ((wr.alloc (.cells #[.int .i64 0, .int .i64 0, .int .i64 0, .int .i64 0, .int .i64 0, .int .i64 0, .int .i64 0, .int .i64 0, .int .i64 0, .int .i64 0, .int .i64 0, .int .i64 0, .int .i64 0, .int .i64 0, .int .i64 0, .int .i64 0, .int .i64 0] 92)).setRow wr.heap.size (arr (gRow (S, x)))) := below_setRow' (hbel.alloc hzr _) hzr _; have hO5 : OwnW ((wr.alloc (.cells #[.int .i64 0, .int .i64 0, .int .i64 0, .int .i64 0, .int .i64 0, .int .i64 0, .int .i64 0, .int .i64 0, .int .i64 0, .int .i64 0, .int .i64 0, .int .i64 0, .int .i64 0, .int .i64 0, .int .i64 0, .int .i64 0, .int .i64 0] 92)).setRow wr.heap.size (arr (gRow (S, x)))) w.heap.size wr.heap.size 92 17 u3 (gRows (lvN G k)) := HO.out.below (below_setRow' ((Below.refl _ _).alloc (Nat.le_refl _) _) (Nat.le_refl _) _); obtain ⟨w5, hw5⟩ : ∃ w5, (wr.alloc (.cells #[.int .i64 0, .int .i64 0, .int .i64 0, .int .i64 0, .int .i64 0, .int .i64 0, .int .i64 0, .int .i64 0, .int .i64 0, .int .i64 0, .int .i64 0, .int .i64 0, .int .i64 0, .int .i64 0, .int .i64 0, .int .i64 0, .int .i64 0] 92)).setRow wr.heap.size (arr (gRow (S, x))) = w5 := ⟨_, rfl⟩; rw [hw5] at hb5 hA5 hO5; (try rw [hw5]); clear hw5; have hR5 : w5.rangeAt wr.heap.size 0 (ints (pad S)) := rangeAt_blk hb5 0 (fun j hj => gRow_first (g := (S, x)) HGE.out.1 hj))
        | (refine wpList_load_part rfl 59 (.tmp 15) rfl wr.heap.size 0 rfl (pad S) _ hR5 Try.underlying59 rfl hi16 ?_)
        | (go_at_call 74; refine (dcorners_any (pad S) hpl _).mono ?_; rintro e w6 ⟨aC, cC, rfl, hoC, hb6⟩; rw [crn_pad HGE.out.1] at hoC ⊢))
      obtain ⟨b5, hbe5⟩ : ∃ b, wr.heap.size = b := ⟨_, rfl⟩
      rw [hbe5] at hb5 hR5 hO5
      try rw [hbe5]
      have hz5 := hb5.lt
      have hz6 := hb6.size
      have hA6 := hA5.trans (hb6.mono hA5.size)
      have hw5z := hA5.size
      obtain ⟨z5, hz5e⟩ : ∃ z, w5.heap.size = z := ⟨_, rfl⟩
      obtain ⟨z6, hz6e⟩ : ∃ z, w6.heap.size = z := ⟨_, rfl⟩
      rw [hz5e] at hoC hz5 hb6 hz6 hw5z
      rw [hz6e] at hoC hz6
      have hbz : w.heap.size ≤ b5 := by rw [← hbe5]; exact hzr
      have HKJ : Hid (∀ j, j ≤ (crn S).length → gLv m (lvK S x (lvN G k) j) ∧ gSum (lvK S x (lvN G k) j) ≤ 10000) := Lib.hid (fun j hj => ⟨(lvK_ok HGE.out.1 HGE.out.2.1 HGE.out.2.2.1 HLV.out.1 j hj).1, by
        have h1 := lvK_le (by omega) HGE.out.1 HGE.out.2.1 HGE.out.2.2.1 HLV.out.1 hj
        have h2 := HLV.out.2.2
        rw [HLV.out.2.1] at h2
        omega⟩)
      have hO6 := (hO5.below (hb6.mono (by omega))).more
      have hb56 := hb5.below hb6 (by omega)
      have hlt5 := hO5.lt
      have HLT5 := Lib.hid hlt5
      have HO6 := Lib.hid hO6
      have hn16 : (crn S).length ≤ 16 := by have := fl_len (isC S) S.length; unfold crn crnTo; unfold fl at this; omega
      clear hR5 hO5 hb5 hb6 hA5 hlt5 hO6 hbe5 hR0
      go_loopw [3, 19] (fun v3 ii wq => ∃ j : Nat, ii = .int .i64 (j : Int) ∧ j ≤ (crn S).length ∧ OwnW wq w.heap.size wq.heap.size 92 17 v3 (gRows (lvK S x (lvN G k) j)) ∧ Blk wq b5 92 (arr (gRow (S, x))) ∧ Own wq z5 z6 3 (.slice aC (crn S).length cC) (ints (crn S)) ∧ Hid (∀ g, v3.ownBlock = some g → g < b5 ∨ z6 ≤ g) ∧ Below w.heap.size w wq ∧ z6 ≤ wq.heap.size) (fun _ ii _ => (crn S).length - (intOf ii).toNat)
      case atStart => exact ⟨0, rfl, Nat.zero_le _, by rw [show lvK S x (lvN G k) 0 = lvN G k from by simp [lvK]]; exact HO6.out, hb56, hoC, Lib.hid (fun g hg => .inl (HLT5.out g hg)), hA6, by omega⟩
      case round =>
        obtain ⟨j, rfl, hj, hOq, hbq5, hoq, hap, hAq, hzq⟩ := hrel
        obtain ⟨wo, rfl⟩ : ∃ wx : World, wx = wr := ⟨_, rfl⟩
        have HOQ := Lib.hid hOq
        clear hOq
        by_cases hjl : j < (crn S).length
        · have hjl' : (j : Int) < ((crn S).length : Int) := by omega
          obtain ⟨i, hie, hiS, hiC⟩ := crn_at hjl
          obtain ⟨gC, cC', hvC, hloC, hhiC, hcC, -⟩ := hoq.at_ (k := j) (by simpa using hjl)
          injection hvC with hvC hvn hvc
          subst hvC
          have hcell : wo.cell? ⟨gC, j, none⟩ = some (.int .i64 (i : Int)) := by rw [hcC]; simp [ints, hie]
          clear hvn hvc hcC
          have hi16' : i < 16 := by omega
          have hpg := pad_get hl16 hiS
          have hyb := preS_of_valid HGE.out.1 i hiS hiS
          have hyd : S.getD i 0 = S[i] := by simp [List.getD_eq_getElem?_getD, hiS]
          have hpless := pad_less HGE.out.1 hiS hiC
          have hvL := valid_less HGE.out.1 hiS hiC
          have hcx : wo.cell? ⟨b5, 16, none⟩ = some (.int .i64 x) := by
            rw [hbq5.cell 16]
            unfold arr ints
            rw [List.getElem?_toArray, List.getElem?_map, gRow_last (g := (S, x)) HGE.out.1]; rfl
          have hRq : wo.rangeAt b5 0 (ints (pad S)) := rangeAt_blk hbq5 0 (fun j hj => gRow_first (g := (S, x)) HGE.out.1 hj)
          have hpnn := pad_nonneg HGE.out.1 i (by rw [hpl]; omega)
          obtain ⟨y, hy⟩ : ∃ y, S[i] = y := ⟨_, rfl⟩
          rw [hyd, hy] at hpless
          rw [hpg, hy] at hpnn
          rw [hy] at hyb hpg
          have hy16 : 1 ≤ y ∧ y ≤ 16 := by omega
          have hws : IntKind.i64.wrap (y - 1) = y - 1 := IntWalk.i64_in _ (by omega)
          have HVL := Lib.hid hvL
          have hLl := pad_len (valid_bd hvL).2.2.2
          have hiLD : (Try.prog.info? 59).map (·.size) = some (arr (pad (lessL S i))).size := by rw [arr_size, hLl]; exact T_info35
          have hiPD : (Try.prog.info? 59).map (·.size) = some (arr (pad S)).size := by rw [arr_size, hpl]; exact T_info35
          have hsPD : (arr (pad S)).size = (#[.int .i64 0, .int .i64 0, .int .i64 0, .int .i64 0, .int .i64 0, .int .i64 0, .int .i64 0, .int .i64 0, .int .i64 0, .int .i64 0, .int .i64 0, .int .i64 0, .int .i64 0, .int .i64 0, .int .i64 0, .int .i64 0] : Array Value).size := by rw [arr_size, hpl]; rfl
          obtain ⟨b8, hb8e⟩ : ∃ b, wo.heap.size = b := ⟨_, rfl⟩
          obtain ⟨w8, hw8⟩ : ∃ w8, (wo.alloc (.cells #[.int .i64 0, .int .i64 0, .int .i64 0, .int .i64 0, .int .i64 0, .int .i64 0, .int .i64 0, .int .i64 0, .int .i64 0, .int .i64 0, .int .i64 0, .int .i64 0, .int .i64 0, .int .i64 0, .int .i64 0, .int .i64 0] 59)).setRow b8 (arr (pad S)) = w8 := ⟨_, rfl⟩
          have hNew : Blk (wo.alloc (.cells #[.int .i64 0, .int .i64 0, .int .i64 0, .int .i64 0, .int .i64 0, .int .i64 0, .int .i64 0, .int .i64 0, .int .i64 0, .int .i64 0, .int .i64 0, .int .i64 0, .int .i64 0, .int .i64 0, .int .i64 0, .int .i64 0] 59)) b8 59 #[.int .i64 0, .int .i64 0, .int .i64 0, .int .i64 0, .int .i64 0, .int .i64 0, .int .i64 0, .int .i64 0, .int .i64 0, .int .i64 0, .int .i64 0, .int .i64 0, .int .i64 0, .int .i64 0, .int .i64 0, .int .i64 0] := by rw [← hb8e]; exact Blk.new wo _ _
          have hB8 : Blk w8 b8 59 (arr (pad S)) := by rw [← hw8, ← hb8e]; exact (Blk.new wo _ _).row
          have hbel8 : Below b8 wo w8 := by rw [← hw8, ← hb8e]; exact below_setRow' ((Below.refl _ _).alloc (Nat.le_refl _) _) (Nat.le_refl _) _
          have c8 : w8.cell? ⟨b8, i, none⟩ = some (.int .i64 y) := by rw [hB8.cell i, arr_get _ i (by rw [hpl]; omega), hpg]
          have f8 := hB8.free i
          have hB9 : Blk (w8.setCell ⟨b8, i, none⟩ (.int .i64 (y - 1))) b8 59 (arr (pad (lessL S i))) := by
            have h1 := hB8.set i (.int .i64 (y - 1))
            rw [arr_set, hpless] at h1
            exact h1
          have hz8 := hbel8.size
          have hbel9 : Below b8 wo (w8.setCell ⟨b8, i, none⟩ (.int .i64 (y - 1))) := hbel8.setCell (Nat.le_refl _) _
          have c9 : (w8.setCell ⟨b8, i, none⟩ (.int .i64 (y - 1))).cell? ⟨b5, 16, none⟩ = some (.int .i64 x) := (hbel9.cell (p := ⟨b5, 16, none⟩) (by show b5 < b8; omega)).trans hcx
          have HO9 : Hid (OwnW (w8.setCell ⟨b8, i, none⟩ (.int .i64 (y - 1))) w.heap.size b8 92 17 u3 (gRows (lvK S x (lvN G k) j))) := Lib.hid (by have := HOQ.out; rw [hb8e] at this; exact this.below hbel9)
          obtain ⟨hk1, hk2⟩ := HKJ.out j hj
          have hkb := gLv_bd (by omega) hk1
          have HGK : Hid (∀ g ∈ lvK S x (lvN G k) j, valid g.1 = true ∧ 0 ≤ g.2 ∧ g.2 ≤ 100000) := Lib.hid (fun g hg => ⟨(hk1.1 g hg).1, by have := (hk1.1 g hg).2.2; omega, by have := hkb.2 g hg; omega⟩)
          have hkl : (lvK S x (lvN G k) j).length ≤ 100000 := by have := hkb.1; omega
          have hxb : 0 ≤ x ∧ x ≤ 100000 := by have := HGE.out.2.2; omega
          have hnx : Hid (lvK S x (lvN G k) (j + 1) = addG (lvK S x (lvN G k) j) (lessL S i) x) := Lib.hid (by rw [lvK_succ _ _ _ _ hjl, hie, Int.toNat_natCast])
          have hb59 : Blk (w8.setCell ⟨b8, i, none⟩ (.int .i64 (y - 1))) b5 92 (arr (gRow (S, x))) := hbq5.below hbel9 (by omega)
          have ho9 := hoq.below (hbel9.mono (by omega))
          have hA9 := hAq.trans (hbel9.mono (by omega))
          have HWL : Hid (w.heap.size ≤ (w8.setCell ⟨b8, i, none⟩ (.int .i64 (y - 1))).heap.size) := Lib.hid hA9.size
          have HZ9 : Hid (z6 ≤ (w8.setCell ⟨b8, i, none⟩ (.int .i64 (y - 1))).heap.size) := Lib.hid (by have := hbel9.size; omega)
          have HH : Hid (w.heap.size ≤ b5 ∧ b5 < z5 ∧ z5 ≤ z6 ∧ z6 ≤ b8) := Lib.hid ⟨hbz, hz5, hz6, by omega⟩
          have hnb : b8 < w8.heap.size := hB8.lt
          clear hk1 hk2 hkb hpless hpg hyd hvL hy
          go_wp2_with (first
            | (refine wpList_load_part rfl 59 (.tmp 23) rfl b5 0 rfl (pad S) _ hRq Try.underlying59 rfl hi16 ?_)
            | (refine wpList_store_row rfl 59 (.tmp 8) (.tmp 24) rfl b8 rfl (arr (pad S)) rfl 59 _ hNew hiPD hsPD (arr_one _) ?_; (try rw [hb8e]); (try rw [hw8]))
            | (refine wpList_load_row rfl 59 (.tmp 8) rfl b8 rfl 59 (arr (pad (lessL S i))) (0, 0) _ hB9 Try.underlying59 rfl hiLD ?_)
            | ((with_reducible show wpList _ _ _ (Oper.mk _ (Op.build _ _) _ _ _ _ :: _) _ _); refine wpList_execG rfl (exec_build (u1 := .agg (arr (pad (lessL S i)))) (u2 := .int .i64 x) (v := .agg (arr (gRow (lessL S i, x)))) 92 (.tmp 31) (.tmp 33) rfl rfl rfl (T_buildG (pad (lessL S i)) hLl x _)) ?_)
            | (go_at_call 121; refine (addGrowth_any w.heap.size _ u3 (lvK S x (lvN G k) j) (lessL S i) x HGK.out HVL.out hxb hkl _ HO9.out HWL.out).mono ?_; rintro e wz ⟨v', rfl, hoZ, hgZ, hatZ⟩))
          go_roundw
          case rel =>
            obtain ⟨q1, q2, q3, q4⟩ := HH.out
            have q5 := hgZ.size
            have q6 := HZ9.out
            exact ⟨j + 1, by go_num, by omega, by rw [hnx.out]; exact hoZ, hb59.grown hgZ (fun e => by
              rcases hap.out b5 e.symm with h | h
              · omega
              · omega), ho9.grown hgZ (.inr fun e => by
              rcases hap.out gC e.symm with h | h
              · omega
              · omega), Lib.hid (fun g hg => by
              rcases hatZ g hg with h | h
              · exact hap.out g h
              · exact .inr (by omega)), hA9.grown hgZ HWL.out (fun k hk => HOQ.out.base k hk), by omega⟩
          case measure => simp [intOf] <;> omega
        · obtain rfl : j = (crn S).length := by omega
          go_wp2_with fail
          go_roundw
          case rel => exact ⟨k + 1, by go_num, by omega, by rw [HLV.out.2.1]; exact HOQ.out, hAq⟩
          case measure => simp [intOf] <;> omega
    · obtain rfl : k = G.length := by omega
      clear hlt
      go_wp2_with fail
      go_ret
      exact ⟨_, rfl, HO.out, hbel⟩
end Go.Proofs.Ythafbdpeignccaa
namespace Go.Proofs.Ythafbdpeignccaa
open Go.RowKit
set_option linter.unusedVariables false
section
variable {P : Program} {md : Region.Mode} {ops : Array Oper} {Q : Exit → Act → World → Prop} {az : Act}
/-- each operation yields its value in whatever world is due at what is listed -/
theorem wpAny_staged_go {S : Array Bool → World → Prop} (hok : regOkG md ops ops.size = true)
    (hstep : ∀ i o listed w, i < ops.size → ops[i]? = some o → listed.size = ops.size → DownG md ops ops.size listed → listed.getD i true = false → (∀ e ∈ o.after, Region.binds md e = true → listed.getD e.on false = true) → S listed w →
      if Region.wanted o (yielded ops az.tmps) = true then o.wp P az w (fun a' w' => a' = az ∧ S (listed.setIfInBounds i true) w') (fun _ _ _ => False) else az.put o.dst undef = az ∧ S (listed.setIfInBounds i true) w)
    (hrest : ∀ listed w, listed.size = ops.size → (∀ j, j < ops.size → listed.getD j true = true) → S listed w → Q .normal az w) :
    ∀ (k : Nat) (listed : Array Bool) (a : Act) (w : World), listed.size = ops.size → ((List.range ops.size).filter fun j => !listed.getD j true).length = k → DownG md ops ops.size listed → AgreeG ops ops.size az listed a → S listed w → wpAny P md ops Q k listed a w := by
  have hok' := hok
  unfold regOkG at hok'
  simp only [Bool.and_eq_true, decide_eq_true_eq, List.all_eq_true, List.mem_range] at hok'
  obtain ⟨-, hall⟩ := hok'
  intro k
  induction k with
  | zero =>
    intro listed a w hls hk hdown hA hS
    have hl : ∀ j, j < ops.size → listed.getD j true = true := fun j hj => by
      have h1 := List.length_eq_zero_iff.1 hk
      have h2 := List.filter_eq_nil_iff.1 h1 j (List.mem_range.2 hj)
      simpa using h2
    have e2 : a = az := by
      obtain ⟨h1, h2, h3⟩ := hA
      cases a; cases az
      simp only at h1 h2 h3
      congr
      exact Array.ext_getElem? fun t => h3 t fun j hj hu => by rw [hl j hj] at hu; cases hu
    subst e2
    refine ⟨?_, hrest listed w hls hl hS⟩
    unfold Region.ready
    rw [List.filter_eq_nil_iff]
    intro i hi
    have h := List.mem_range.1 hi
    have := hl i h
    simp only [this]
    simp
  | succ k ih =>
    intro listed a w hls hk hdown hA hS
    obtain ⟨j0, hj0⟩ : ∃ j, j ∈ (List.range ops.size).filter fun j => !listed.getD j true := List.exists_mem_of_length_pos (by omega)
    have hex : ∃ j, j < ops.size ∧ listed.getD j true = false := by
      rw [List.mem_filter, List.mem_range] at hj0
      exact ⟨j0, hj0.1, by simpa using hj0.2⟩
    have hne : Region.ready md ops listed ≠ [] := by
      intro h0
      have key : ∀ j, j < ops.size → listed.getD j true = true := by
        intro j
        induction j using Nat.strongRecOn with
        | ind j ihj =>
          intro hj
          by_cases hu : listed.getD j true = true
          · exact hu
          exfalso
          have ho : ∃ o, ops[j]? = some o := ⟨ops[j]'hj, Array.getElem?_eq_getElem hj⟩
          obtain ⟨o, ho⟩ := ho
          have h1 := hall j hj
          rw [ho] at h1
          simp only [hj, if_true, Bool.and_eq_true, List.all_eq_true, Array.mem_toList_iff] at h1
          have hm : j ∈ Region.ready md ops listed := mem_ready.2 ⟨by simpa using hu, o, ho, fun e he hb => by
            have h2 := h1.2.1 e he
            simp only [hb, Bool.not_true, Bool.false_or, decide_eq_true_eq] at h2
            have h3 := ihj e.on h2 (by omega)
            have h' : e.on < listed.size := by omega
            simp [h'] at h3 ⊢; exact h3⟩
          rw [h0] at hm
          cases hm
      obtain ⟨j, hj, hf⟩ := hex
      rw [key j hj] at hf; cases hf
    refine wpAny_all rfl hne fun i hi => ?_
    obtain ⟨hu, o, ho, hp⟩ := mem_ready.1 hi
    have hiz : i < ops.size := (Array.getElem?_eq_some_iff.1 ho).1
    have h1 := hall i hiz
    rw [ho] at h1
    simp only [hiz, if_true, Bool.and_eq_true] at h1
    have hsel : ∀ cs b, o.op ≠ .select cs b := fun c b e => by simp [e] at h1
    have hst := hstep i o listed w hiz ho hls hdown hu hp hS
    unfold wpOp
    rw [ho]
    simp only [hA.wanted hok hiz ho hp]
    suffices hnext : ∀ v w', az.put o.dst v = az → S (listed.setIfInBounds i true) w' → wpAny P md ops Q k (listed.setIfInBounds i true) (a.put o.dst v) w' by
      by_cases hw : Region.wanted o (yielded ops az.tmps) = true
      · rw [if_pos hw] at hst ⊢
        exact .inl (wp_agree hsel (hA.eval hok hiz ho hp) hnext hst)
      · rw [if_neg hw] at hst ⊢
        exact hnext _ _ hst.1 hst.2
    intro v w' hv hS'
    refine ih _ _ _ (by simpa using hls) ?_ ?_ (hA.put (by omega) ho hv) hS'
    · have hsplit : ((List.range ops.size).filter fun j => !listed.getD j true).length = ((List.range ops.size).filter fun j => !(listed.setIfInBounds i true).getD j true).length + 1 := by
        have hcount : ∀ (L : List Nat), L.Nodup → i ∈ L → (L.filter fun j => !listed.getD j true).length = (L.filter fun j => !(listed.setIfInBounds i true).getD j true).length + 1 := by
          intro L
          induction L with
          | nil => intro _ h; cases h
          | cons x L ihL =>
            intro hnd hm
            have hnd' := List.nodup_cons.1 hnd
            by_cases hx : x = i
            · subst hx
              have e1 : (x :: L).filter (fun j => !listed.getD j true) = x :: L.filter (fun j => !listed.getD j true) := List.filter_cons_of_pos (by simp only [hu]; rfl)
              have e2 : (listed.setIfInBounds x true).getD x true = true := by
                have h' : x < listed.size := by omega
                simp [h']
              have e3 : (x :: L).filter (fun j => !(listed.setIfInBounds x true).getD j true) = L.filter (fun j => !(listed.setIfInBounds x true).getD j true) := List.filter_cons_of_neg (by simp only [e2]; simp)
              rw [e1, e3, List.length_cons]
              congr 2
              refine List.filter_congr fun j hj => ?_
              rw [getD_set_ne true (fun e => hnd'.1 (by rw [e]; exact hj))]
            · have hm' : i ∈ L := (List.mem_cons.1 hm).resolve_left (Ne.symm hx)
              have := ihL hnd'.2 hm'
              have e2 : (listed.setIfInBounds i true).getD x true = listed.getD x true := getD_set_ne true (Ne.symm hx)
              by_cases hxu : listed.getD x true = true
              · rw [List.filter_cons_of_neg (by simp only [hxu]; simp), List.filter_cons_of_neg (by simp only [e2, hxu]; simp)]; exact this
              · have hxf : listed.getD x true = false := by simpa using hxu
                rw [List.filter_cons_of_pos (by simp only [hxf]; rfl), List.filter_cons_of_pos (by simp only [e2, hxf]; rfl), List.length_cons, List.length_cons]
                omega
        exact hcount _ List.nodup_range (List.mem_range.2 hiz)
      omega
    · intro j o' hj ho' hl e he hb
      by_cases hji : j = i
      · subst hji
        rw [ho] at ho'; injection ho' with ho'; subst ho'
        exact getD_set_true (hp e he hb)
      · rw [getD_set_ne true (Ne.symm hji)] at hl
        exact getD_set_true (hdown j o' hj ho' hl e he hb)
/-- the operation numbered p waits for the one numbered i -/
def waitsFor (md : Region.Mode) (ops : Array Oper) (p i : Nat) : Bool := match ops[p]? with
  | none => false
  | some o => o.after.toList.any fun e => Region.binds md e && e.on == i
/-- what each operation does: at any time, ahead of the first store, as the first store, as the second -/
def Two (P : Program) (md : Region.Mode) (ops : Array Oper) (az : Act) (p q : Nat) (S0 S1 S2 : World → Prop) (i : Nat) (o : Oper) : Prop :=
  o.guard = none ∧
  ((i ≠ p ∧ i ≠ q ∧ ∀ w, o.wp P az w (fun a' w' => a' = az ∧ w' = w) (fun _ _ _ => False)) ∨
  (i ≠ p ∧ i ≠ q ∧ waitsFor md ops p i = true ∧ ∀ w, S0 w → o.wp P az w (fun a' w' => a' = az ∧ S0 w') (fun _ _ _ => False)) ∨
  (i = p ∧ ∀ w, S0 w → o.wp P az w (fun a' w' => a' = az ∧ S1 w') (fun _ _ _ => False)) ∨
  (i = q ∧ ∀ w, S1 w → o.wp P az w (fun a' w' => a' = az ∧ S2 w') (fun _ _ _ => False)))
def Twos (P : Program) (md : Region.Mode) (ops : Array Oper) (az : Act) (p q : Nat) (S0 S1 S2 : World → Prop) (L : List Nat) : Prop := ∀ i ∈ L, ∀ o, ops[i]? = some o → Two P md ops az p q S0 S1 S2 i o
variable {p q : Nat} {S0 S1 S2 : World → Prop}
theorem Twos.nil : Twos P md ops az p q S0 S1 S2 [] := fun _ h => by cases h
theorem Twos.one {i : Nat} {L : List Nat} {o : Oper} (ho : ops[i]? = some o) (h : Two P md ops az p q S0 S1 S2 i o) (hs : Twos P md ops az p q S0 S1 S2 L) : Twos P md ops az p q S0 S1 S2 (i :: L) := by
  intro j hj o' ho'
  rcases List.mem_cons.1 hj with rfl | hj
  · rw [ho] at ho'; injection ho' with ho'; subst ho'; exact h
  · exact hs j hj o' ho'
theorem Twos.any {i : Nat} {L : List Nat} {o : Oper} (ho : ops[i]? = some o) (hg : o.guard = none) (h1 : i ≠ p) (h2 : i ≠ q) (h : ∀ w, o.wp P az w (fun a' w' => a' = az ∧ w' = w) (fun _ _ _ => False)) (hs : Twos P md ops az p q S0 S1 S2 L) : Twos P md ops az p q S0 S1 S2 (i :: L) := .one ho ⟨hg, .inl ⟨h1, h2, h⟩⟩ hs
theorem Twos.early {i : Nat} {L : List Nat} {o : Oper} (ho : ops[i]? = some o) (hg : o.guard = none) (h1 : i ≠ p) (h2 : i ≠ q) (h3 : waitsFor md ops p i = true) (h : ∀ w, S0 w → o.wp P az w (fun a' w' => a' = az ∧ S0 w') (fun _ _ _ => False)) (hs : Twos P md ops az p q S0 S1 S2 L) : Twos P md ops az p q S0 S1 S2 (i :: L) := .one ho ⟨hg, .inr (.inl ⟨h1, h2, h3, h⟩)⟩ hs
theorem Twos.first {L : List Nat} {o : Oper} (ho : ops[p]? = some o) (hg : o.guard = none) (h : ∀ w, S0 w → o.wp P az w (fun a' w' => a' = az ∧ S1 w') (fun _ _ _ => False)) (hs : Twos P md ops az p q S0 S1 S2 L) : Twos P md ops az p q S0 S1 S2 (p :: L) := .one ho ⟨hg, .inr (.inr (.inl ⟨rfl, h⟩))⟩ hs
theorem Twos.second {L : List Nat} {o : Oper} (ho : ops[q]? = some o) (hg : o.guard = none) (h : ∀ w, S1 w → o.wp P az w (fun a' w' => a' = az ∧ S2 w') (fun _ _ _ => False)) (hs : Twos P md ops az p q S0 S1 S2 L) : Twos P md ops az p q S0 S1 S2 (q :: L) := .one ho ⟨hg, .inr (.inr (.inr ⟨rfl, h⟩))⟩ hs
theorem waits_down {listed : Array Bool} {i j : Nat} (hdown : DownG md ops ops.size listed) (hj : j < ops.size) (hl : listed.getD j true = true) (h : waitsFor md ops j i = true) : listed.getD i false = true := by
  unfold waitsFor at h
  cases ho : ops[j]? with
  | none => rw [ho] at h; cases h
  | some o =>
    rw [ho] at h
    simp only [List.any_eq_true, Bool.and_eq_true, beq_iff_eq, Array.mem_toList_iff] at h
    obtain ⟨e, he, hb, rfl⟩ := h
    exact hdown j o hj ho hl e he hb
theorem getD_ft {l : Array Bool} {j : Nat} (h : l.getD j false = true) : l.getD j true = true := by
  rcases Nat.lt_or_ge j l.size with h' | h'
  · simp [h'] at h ⊢; exact h
  · simp [Array.getElem?_eq_none h'] at h
theorem getD_tf {l : Array Bool} {j : Nat} (hj : j < l.size) (h : l.getD j true = true) : l.getD j false = true := by
  simp [hj] at h ⊢; exact h
theorem wp_region_two {id : Nat} {a : Act} {w : World} (p q : Nat) (zl : List Nat) (vs : List Value) (S0 S1 S2 : World → Prop) (az : Act) (hm : P.follows .mixedOrders = true) (hS : ∀ y, Dr w y → S0 y) (haz : putsOfG ops 0 vs a = az) (hlen : vs.length = ops.size)
    (hok : regOkG .any ops ops.size = true) (hq : q < ops.size) (hpl : p < ops.size) (hpq : waitsFor .any ops q p = true) (hne : p ≠ q) (hzl : List.range ops.size = zl) (hstep : Twos P .any ops az p q S0 S1 S2 zl) (hrest : ∀ w', S2 w' → Q .normal az w') : (Code.region id ops true).wp P Q a w := by
  subst hzl
  refine wp_region_any hm ?_
  obtain ⟨h1, h2, h3⟩ := putsOfG_spec ops vs 0 a
  rw [haz] at h1 h2 h3
  refine wpAny_staged_go (S := fun listed w => if listed.getD q false = true then S2 w else if listed.getD p false = true then S1 w else S0 w) hok (fun i o listed w hi ho hls hdown hu hp hS => ?_) (fun listed w hls hl hS => ?_) ops.size (Array.replicate ops.size false) a _ (by simp) (by
      rw [List.filter_eq_self.2]
      · simp
      · intro j hj
        have hj := List.mem_range.1 hj
        simp [hj]) (fun i o hi ho hl => by simp [hi] at hl) ⟨h1.symm, h2.symm, fun t ht => (h3 t fun j _ hj => ht j (by omega) ?_).symm⟩ ?_
  · obtain ⟨hg, hc⟩ := hstep i (List.mem_range.2 hi) o ho
    rw [if_pos (by simp [Region.wanted, hg])]
    have fq : listed.getD q false = true → listed.getD p false = true := fun h => waits_down hdown hq (getD_ft h) hpq
    have hui : listed.getD i false = false := by
      cases e : listed.getD i false with
      | false => rfl
      | true => rw [getD_ft e] at hu; cases hu
    rcases hc with ⟨c1, c2, c3⟩ | ⟨c1, c2, c3, c4⟩ | ⟨rfl, c4⟩ | ⟨rfl, c4⟩
    · refine Oper.wp_mono (fun a' w' hh => ⟨hh.1, ?_⟩) (c3 w)
      rw [getD_set_ne false c2, getD_set_ne false c1, hh.2]; exact hS
    · have up : listed.getD p false = false := by
        cases e : listed.getD p false with
        | false => rfl
        | true => have := waits_down hdown hpl (getD_ft e) c3; rw [hui] at this; cases this
      have uq : listed.getD q false = false := by
        cases e : listed.getD q false with
        | false => rfl
        | true => rw [fq e] at up; cases up
      rw [uq, up] at hS
      simp only [Bool.false_eq_true, if_false] at hS
      refine Oper.wp_mono (fun a' w' hh => ⟨hh.1, ?_⟩) (c4 w hS)
      rw [getD_set_ne false c2, getD_set_ne false c1, uq, up]
      simp only [Bool.false_eq_true, if_false]
      exact hh.2
    · have uq : listed.getD q false = false := by
        cases e : listed.getD q false with
        | false => rfl
        | true => rw [fq e] at hui; cases hui
      rw [uq, hui] at hS
      simp only [Bool.false_eq_true, if_false] at hS
      refine Oper.wp_mono (fun a' w' hh => ⟨hh.1, ?_⟩) (c4 w hS)
      rw [getD_set_ne false hne, uq, show (listed.setIfInBounds i true).getD i false = true from by simp [show i < listed.size by omega]]
      simp only [Bool.false_eq_true, if_false, if_true]
      exact hh.2
    · have lp : listed.getD p false = true := by
        unfold waitsFor at hpq
        rw [ho] at hpq
        simp only [List.any_eq_true, Bool.and_eq_true, beq_iff_eq, Array.mem_toList_iff] at hpq
        obtain ⟨e, he, hb, rfl⟩ := hpq
        exact hp e he hb
      rw [hui, lp] at hS
      simp only [Bool.false_eq_true, if_false, if_true] at hS
      refine Oper.wp_mono (fun a' w' hh => ⟨hh.1, ?_⟩) (c4 w hS)
      rw [show (listed.setIfInBounds i true).getD i false = true from by simp [show i < listed.size by omega]]
      simp only [if_true]
      exact hh.2
  · rw [getD_tf (by omega) (hl q hq)] at hS
    simp only [if_true] at hS
    exact hrest w hS
  · have h' : j < ops.size := by omega
    simp [h']
  · have hq0 : (Array.replicate ops.size false).getD q false = false := by simp [hq]
    have hp0 : (Array.replicate ops.size false).getD p false = false := by simp [hpl]
    rw [hq0, hp0]
    simp only [Bool.false_eq_true, if_false]
    exact hS _ (Dr.n w 1)
end
end Go.Proofs.Ythafbdpeignccaa
namespace Go.Proofs.Ythafbdpeignccaa
namespace NP
/-- the bits of summands: whether one ends -/
def toB : List Int → List Bool
  | [] => []
  | [x] => List.replicate (x - 1).toNat false
  | x :: y :: r => List.replicate (x - 1).toNat false ++ true :: toB (y :: r)
/-- 1 more for the first -/
def bump : List Int → List Int
  | [] => []
  | x :: r => (x + 1) :: r
/-- the summands of bits -/
def ofB : List Bool → List Int
  | [] => [1]
  | true :: b => 1 :: ofB b
  | false :: b => bump (ofB b)
def addHd (r : Int) : List Int → List Int
  | [] => [r]
  | x :: t => (r + x) :: t
def bval : List Bool → Nat
  | [] => 0
  | b :: r => (if b then 1 else 0) + 2 * bval r
def bitsN (m : Nat) : Nat → List Bool
  | 0 => []
  | k + 1 => bitsN m k ++ [decide (m / 2 ^ k % 2 = 1)]

theorem ofB_ne (b : List Bool) : ∃ x r, ofB b = x :: r := by
  induction b with
  | nil => exact ⟨1, [], rfl⟩
  | cons c b ih =>
    obtain ⟨x, r, h⟩ := ih
    cases c with
    | true => exact ⟨1, ofB b, rfl⟩
    | false => exact ⟨x + 1, r, by simp [ofB, h, bump]⟩
theorem ofB_sum (b : List Bool) : sumL (ofB b) = b.length + 1 := by
  induction b with
  | nil => rfl
  | cons c b ih =>
    cases c with
    | true => simp [ofB, sumL, ih]; omega
    | false =>
      obtain ⟨x, r, h⟩ := ofB_ne b
      simp [ofB, h, bump, sumL] at ih ⊢
      omega
theorem ofB_pos (b : List Bool) : ∀ x ∈ ofB b, 1 ≤ x := by
  induction b with
  | nil => intro x hx; simp [ofB] at hx; omega
  | cons c b ih =>
    intro x hx
    cases c with
    | true =>
      simp [ofB] at hx
      rcases hx with hx | hx
      · omega
      · exact ih x hx
    | false =>
      obtain ⟨y, r, h⟩ := ofB_ne b
      rw [h] at ih
      simp [ofB, h, bump] at hx
      rcases hx with hx | hx
      · have := ih y (by simp); omega
      · exact ih x (by simp [hx])
theorem ofB_zeros (k : Nat) (b : List Bool) : ofB (List.replicate k false ++ b) = addHd k (ofB b) := by
  induction k with
  | zero => obtain ⟨x, r, h⟩ := ofB_ne b; simp [h, addHd]
  | succ k ih =>
    rw [List.replicate_succ, List.cons_append]
    show bump (ofB _) = _
    rw [ih]
    obtain ⟨x, r, h⟩ := ofB_ne b
    simp [h, addHd, bump]; omega
theorem ofB_toB : ∀ (L : List Int), L ≠ [] → (∀ x ∈ L, 1 ≤ x) → ofB (toB L) = L
  | [], h, _ => absurd rfl h
  | [x], _, hp => by
    have := ofB_zeros (x - 1).toNat []
    have h1 := hp x (by simp)
    rw [List.append_nil] at this
    simp only [toB, this, ofB, addHd]
    congr 1; omega
  | x :: y :: r, _, hp => by
    have h1 := hp x (by simp)
    have ih := ofB_toB (y :: r) (by simp) (fun z hz => hp z (List.mem_cons_of_mem _ hz))
    simp only [toB, ofB_zeros, ofB, ih, addHd]
    congr 1; omega
theorem toB_bump (x : Int) (r : List Int) (h : 1 ≤ x) : toB ((x + 1) :: r) = false :: toB (x :: r) := by
  have e : (x + 1 - 1).toNat = (x - 1).toNat + 1 := by omega
  cases r with
  | nil => simp only [toB, e, List.replicate_succ]
  | cons y t => simp only [toB, e, List.replicate_succ, List.cons_append]
theorem toB_ofB (b : List Bool) : toB (ofB b) = b := by
  induction b with
  | nil => rfl
  | cons c b ih =>
    obtain ⟨x, r, h⟩ := ofB_ne b
    have hp := ofB_pos b
    rw [h] at ih hp
    cases c with
    | true => simp [ofB, h, toB, ih]
    | false => simp only [ofB, h, bump]; rw [toB_bump x r (hp x (by simp)), ih]
theorem ofB_true (a b : List Bool) : ofB (a ++ true :: b) = ofB a ++ ofB b := by
  induction a with
  | nil => rfl
  | cons c a ih =>
    cases c with
    | true => simp [ofB, ih]
    | false =>
      obtain ⟨x, r, h⟩ := ofB_ne a
      simp [ofB, ih, h, bump]
theorem ofB_false (a b : List Bool) : ∀ (out : List Int) (run : Int), ofB a = out ++ [run] → ofB (a ++ false :: b) = out ++ addHd run (ofB b) := by
  induction a with
  | nil =>
    intro out run h
    obtain ⟨x, r, hb⟩ := ofB_ne b
    cases out with
    | nil => simp [ofB] at h; subst h; simp [ofB, hb, bump, addHd] <;> omega
    | cons y t => simp [ofB] at h
  | cons c a ih =>
    intro out run h
    obtain ⟨x, r, ha⟩ := ofB_ne a
    cases c with
    | true =>
      cases out with
      | nil => simp [ofB, ha] at h
      | cons y t =>
        simp [ofB] at h
        obtain ⟨h1, h2⟩ := h
        simp [ofB, ih t run h2, h1]
    | false =>
      cases out with
      | nil =>
        simp [ofB, ha, bump] at h
        obtain ⟨h1, h2⟩ := h
        have := ih [] x (by simp [ha, h2])
        obtain ⟨z, q, hb⟩ := ofB_ne b
        simp [hb, addHd] at this ⊢
        simp [ofB, this, bump]; omega
      | cons y t =>
        simp [ofB, ha, bump] at h
        obtain ⟨h1, h2⟩ := h
        have := ih (x :: t) run (by simp [ha, h2])
        simp at this
        simp [ofB, this, bump, h1]
theorem ofB_rev (b : List Bool) : ofB b.reverse = (ofB b).reverse := by
  induction b with
  | nil => rfl
  | cons c b ih =>
    rw [List.reverse_cons]
    cases c with
    | true => rw [ofB_true, ih]; simp [ofB]
    | false =>
      obtain ⟨x, r, h⟩ := ofB_ne b
      have := ofB_false b.reverse [] r.reverse x (by rw [ih, h]; simp)
      rw [this]
      simp [ofB, h, bump, addHd]
theorem ofB_len (b : List Bool) : (ofB b).length = b.count true + 1 := by
  induction b with
  | nil => rfl
  | cons c b ih =>
    cases c with
    | true => simp [ofB, ih]
    | false =>
      obtain ⟨x, r, h⟩ := ofB_ne b
      simp [ofB, h, bump] at ih ⊢
      omega
theorem count_not (b : List Bool) : (b.map (!·)).count true + b.count true = b.length := by
  induction b with
  | nil => rfl
  | cons c b ih => cases c <;> simp <;> omega
theorem bval_append (a b : List Bool) : bval (a ++ b) = bval a + 2 ^ a.length * bval b := by
  induction a with
  | nil => simp [bval]
  | cons c a ih =>
    simp only [List.cons_append, bval, ih, List.length_cons, Nat.pow_succ]
    have : 2 ^ a.length * 2 * bval b = 2 * (2 ^ a.length * bval b) := by rw [Nat.mul_comm (2 ^ a.length) 2, Nat.mul_assoc]
    rw [this]; omega
theorem bval_lt (b : List Bool) : bval b < 2 ^ b.length := by
  induction b with
  | nil => simp [bval]
  | cons c b ih => simp only [bval, List.length_cons, Nat.pow_succ]; split <;> omega
theorem bval_zeros (k : Nat) : bval (List.replicate k false) = 0 := by
  induction k with
  | zero => rfl
  | succ k ih => simp [List.replicate_succ, bval, ih]
theorem bval_not (b : List Bool) : bval (b.map (!·)) + bval b + 1 = 2 ^ b.length := by
  induction b with
  | nil => rfl
  | cons c b ih =>
    simp only [List.map_cons, bval, List.length_cons, Nat.pow_succ]
    cases c <;> simp <;> omega
theorem bitsN_len (m k : Nat) : (bitsN m k).length = k := by
  induction k with
  | zero => rfl
  | succ k ih => simp [bitsN, ih]
theorem bitsN_cons (m k : Nat) : bitsN m (k + 1) = decide (m % 2 = 1) :: bitsN (m / 2) k := by
  induction k with
  | zero => simp [bitsN]
  | succ k ih =>
    rw [bitsN, ih]
    conv => rhs; rw [bitsN]
    rw [List.cons_append, Nat.div_div_eq_div_mul]
    congr 6
    rw [Nat.pow_succ, Nat.mul_comm]
theorem bitsN_bval' (b : List Bool) : bitsN (bval b) b.length = b := by
  induction b with
  | nil => rfl
  | cons c b ih =>
    rw [List.length_cons, bitsN_cons]
    simp only [bval]
    have e : ((if c = true then 1 else 0) + 2 * bval b) / 2 = bval b := by split <;> omega
    rw [e, ih]
    cases c <;> simp <;> omega
theorem bval_bitsN_mod (m k : Nat) : bval (bitsN m k) = m % 2 ^ k := by
  induction k with
  | zero => simp [bitsN, bval, Nat.mod_one]
  | succ k ih =>
    simp only [bitsN, bval_append, bitsN_len, ih, bval]
    rw [Nat.pow_succ, Nat.mod_mul]
    congr 2
    by_cases h : m / 2 ^ k % 2 = 1
    · simp [h]
    · simp [h]; omega
theorem bval_bitsN {m k : Nat} (h : m < 2 ^ k) : bval (bitsN m k) = m := by rw [bval_bitsN_mod, Nat.mod_eq_of_lt h]
theorem bval_inj {a b : List Bool} (hl : a.length = b.length) (h : bval a = bval b) : a = b := by
  rw [← bitsN_bval' a, ← bitsN_bval' b, h, hl]

/-- whether numbers are summands -/
def vsm (L : List Int) : Bool := L.all (fun x => decide (1 ≤ x)) && decide (sumL L ≤ 16)
theorem vsm_iff {L : List Int} : vsm L = true ↔ (∀ x ∈ L, 1 ≤ x) ∧ sumL L ≤ 16 := by simp [vsm]
theorem sum_len {L : List Int} (h : ∀ x ∈ L, 1 ≤ x) : (L.length : Int) ≤ sumL L := by
  induction L with
  | nil => simp [sumL]
  | cons x r ih =>
    have h1 := h x (by simp)
    have h2 := ih (fun y hy => h y (by simp [hy]))
    simp [sumL]; omega
theorem vsm_bd {L : List Int} (h : vsm L = true) : 0 ≤ sumL L ∧ sumL L ≤ 16 ∧ (L.length : Int) ≤ sumL L ∧ L.length ≤ 16 := by
  rw [vsm_iff] at h
  have := sum_len h.1
  omega
theorem vsm_take {L : List Int} (h : vsm L = true) (k : Nat) : vsm (L.take k) = true := by
  rw [vsm_iff] at *
  have e := congrArg sumL (List.take_append_drop k L)
  rw [sumL_append] at e
  have := sum_len (L := L.drop k) (fun x hx => h.1 x (List.mem_of_mem_drop hx))
  exact ⟨fun x hx => h.1 x (List.mem_of_mem_take hx), by omega⟩
theorem vsm_next {L : List Int} {k : Nat} (hk : k < L.length) (h : vsm (L.take k) = true) (h1 : 1 ≤ L[k]) (h2 : L[k] ≤ 16 - sumL (L.take k)) : vsm (L.take (k + 1)) = true := by
  rw [vsm_iff] at *
  rw [sumL_take_succ L k hk]
  refine ⟨fun x hx => ?_, by omega⟩
  rw [List.take_succ_eq_append_getElem hk, List.mem_append] at hx
  rcases hx with hx | hx
  · exact h.1 x hx
  · simp at hx; omega
theorem vsm_stop {L : List Int} {k : Nat} (hk : k < L.length) (hn : ¬ (1 ≤ L[k] ∧ L[k] ≤ 16 - sumL (L.take k))) : vsm L = false := by
  cases hv : vsm L with
  | false => rfl
  | true =>
    have h1 := vsm_take hv (k + 1)
    rw [vsm_iff] at h1 hv
    rw [sumL_take_succ L k hk] at h1
    exact absurd ⟨hv.1 _ (List.getElem_mem hk), by omega⟩ hn
theorem toB_len : ∀ (L : List Int), (∀ x ∈ L, 1 ≤ x) → (toB L).length = (sumL L - 1).toNat
  | [], _ => rfl
  | [x], h => by simp [toB, sumL]
  | x :: y :: r, h => by
    have h1 := h x (by simp)
    have hy := h y (by simp)
    have hr : ∀ z ∈ y :: r, 1 ≤ z := fun z hz => h z (List.mem_cons_of_mem _ hz)
    have ih := toB_len (y :: r) hr
    have h2 := sum_len hr
    simp only [toB, List.length_append, List.length_replicate, List.length_cons, ih, sumL] at *
    omega
theorem toB_append : ∀ (a b : List Int), a ≠ [] → b ≠ [] → toB (a ++ b) = toB a ++ true :: toB b
  | [], _, h, _ => absurd rfl h
  | [x], [], _, h => absurd rfl h
  | [x], y :: t, _, _ => by simp [toB]
  | x :: y :: r, b, _, hb => by
    have ih := toB_append (y :: r) b (by simp) hb
    simp only [List.cons_append, toB] at ih ⊢
    rw [ih, List.append_assoc, List.cons_append]
/-- the bits of summands as a number -/
def mkN (L : List Int) : Nat := bval (toB L)
/-- the summands of a sum and bits -/
def smk (n m : Nat) : List Int := if n = 0 then [] else ofB (bitsN m (n - 1))
def sgN (L : List Int) : Nat := (sumL L).toNat
theorem mkN_lt {L : List Int} (h : ∀ x ∈ L, 1 ≤ x) : mkN L < 2 ^ (sgN L - 1) := by
  have h1 := bval_lt (toB L)
  rw [toB_len L h] at h1
  unfold mkN sgN
  rwa [show (sumL L).toNat - 1 = (sumL L - 1).toNat by omega]
theorem mkN_next {L : List Int} {k : Nat} (hk : k < L.length) (h0 : 0 < k) (hp : ∀ x ∈ L, 1 ≤ x) : mkN (L.take (k + 1)) = mkN (L.take k) + 2 ^ (sgN (L.take k) - 1) := by
  unfold mkN
  have hpt : ∀ x ∈ L.take k, 1 ≤ x := fun x hx => hp x (List.mem_of_mem_take hx)
  have hne : L.take k ≠ [] := by intro e; have := congrArg List.length e; rw [List.length_take, List.length_nil] at this; omega
  rw [List.take_succ_eq_append_getElem hk, toB_append _ _ hne (by simp), bval_append, toB_len _ hpt]
  simp only [toB, bval, bval_zeros]
  rw [show (sumL (L.take k) - 1).toNat = sgN (L.take k) - 1 by unfold sgN; omega]; simp
theorem smk_mkN {L : List Int} (h : ∀ x ∈ L, 1 ≤ x) : smk (sgN L) (mkN L) = L := by
  unfold smk
  have hs := sum_len h
  by_cases h0 : L = []
  · subst h0; simp [sgN, sumL]
  · have hl : 0 < L.length := List.length_pos_iff.2 h0
    rw [if_neg (by unfold sgN; omega)]
    have e : sgN L - 1 = (toB L).length := by rw [toB_len L h]; unfold sgN; omega
    rw [e, mkN, bitsN_bval' (toB L), ofB_toB L h0 h]
theorem smk_sum (n m : Nat) : sumL (smk n m) = n := by
  unfold smk
  split
  · subst_vars; rfl
  · rw [ofB_sum, bitsN_len]; omega
theorem smk_pos (n m : Nat) : ∀ x ∈ smk n m, 1 ≤ x := by
  unfold smk
  split
  · simp
  · exact ofB_pos _
theorem smk_ok {n : Nat} (m : Nat) (h : n ≤ 16) : vsm (smk n m) = true := vsm_iff.2 ⟨smk_pos n m, by rw [smk_sum]; omega⟩
theorem smk_len (n m : Nat) : (smk n m).length ≤ n := by
  have := sum_len (smk_pos n m)
  rw [smk_sum] at this
  omega
theorem mkN_smk {n m : Nat} (h : m < 2 ^ (n - 1)) : mkN (smk n m) = m := by
  unfold smk mkN
  split
  · subst_vars; simp at h; subst h; rfl
  · rw [toB_ofB, bval_bitsN h]
theorem sgN_smk (n m : Nat) : sgN (smk n m) = n := by unfold sgN; rw [smk_sum]; omega
/-- the sum and the bits that the program tells summands by -/
def smS (L : List Int) : Nat := if vsm L = true then sgN L else 0
def smM (L : List Int) : Nat := if vsm L = true then mkN L else 0
theorem smS_yes {L : List Int} (h : vsm L = true) : smS L = sgN L := by unfold smS; rw [if_pos h]
theorem smM_yes {L : List Int} (h : vsm L = true) : smM L = mkN L := by unfold smM; rw [if_pos h]
theorem smS_no {L : List Int} (h : vsm L = false) : smS L = 0 := by unfold smS; rw [if_neg (by rw [h]; decide)]
theorem smM_no {L : List Int} (h : vsm L = false) : smM L = 0 := by unfold smM; rw [if_neg (by rw [h]; decide)]
theorem smS_le (L : List Int) : smS L ≤ 16 := by
  unfold smS
  split
  · have := vsm_bd (by assumption); unfold sgN; omega
  · omega
theorem smM_lt (L : List Int) : smM L < 2 ^ (smS L - 1) := by
  cases h : vsm L with
  | true => rw [smS_yes h, smM_yes h]; exact mkN_lt (vsm_iff.1 h).1
  | false => rw [smS_no h, smM_no h]; decide
theorem sgN_next {L : List Int} {k : Nat} (hk : k < L.length) (hp : vsm L = true ∨ vsm (L.take (k + 1)) = true) {x : Nat} (hx : L[k] = x) : sgN (L.take (k + 1)) = sgN (L.take k) + x := by
  have hq : vsm (L.take (k + 1)) = true := hp.elim (fun h => vsm_take h _) id
  have h1 := vsm_bd (vsm_take hq k)
  rw [List.take_take, Nat.min_eq_left (by omega)] at h1
  unfold sgN
  rw [sumL_take_succ L k hk, hx]; omega
theorem mkN_step {L : List Int} {k : Nat} (hk : k < L.length) (hp : vsm (L.take (k + 1)) = true) : mkN (L.take (k + 1)) = mkN (L.take k) + if sgN (L.take k) = 0 then 0 else 2 ^ (sgN (L.take k) - 1) := by
  have hpos := (vsm_iff.1 hp).1
  rcases Nat.eq_zero_or_pos k with h0 | h0
  · subst h0
    have e : L.take (0 + 1) = [L[0]] := by rw [List.take_succ_eq_append_getElem hk]; rfl
    rw [e]
    simp [mkN, toB, bval_zeros, bval, sgN, sumL]
  · have h2 : ∀ x ∈ L.take k, 1 ≤ x := fun x hx => hpos x (by rw [List.take_succ_eq_append_getElem hk]; exact List.mem_append_left _ hx)
    have h3 := sum_len h2
    rw [List.length_take_of_le (by omega)] at h3
    rw [if_neg (by unfold sgN; omega)]
    have := mkN_next (L := L.take (k + 1)) (k := k) (by simp; omega) h0 hpos
    rw [List.take_take, List.take_take, Nat.min_self, Nat.min_eq_left (by omega)] at this
    exact this
/-- the opposite bits -/
def opN (L : List Int) : Nat := 2 ^ (sgN L - 1) - 1 - mkN L
def opp (L : List Int) : List Int := smk (sgN L) (opN L)
theorem opN_lt (L : List Int) : opN L < 2 ^ (sgN L - 1) := by unfold opN; have := Nat.two_pow_pos (sgN L - 1); omega
theorem opp_nil : opp [] = [] := by simp [opp, smk, sgN, sumL]
theorem bval_not' (b : List Bool) : bval (b.map (!·)) = 2 ^ b.length - 1 - bval b := by have := bval_not b; omega
theorem opp_bits {L : List Int} (h : ∀ x ∈ L, 1 ≤ x) (h0 : L ≠ []) : opp L = ofB ((toB L).map (!·)) := by
  have hs := sum_len h
  have hl : 0 < L.length := List.length_pos_iff.2 h0
  unfold opp smk
  rw [if_neg (by unfold sgN; omega)]
  have e : sgN L - 1 = (toB L).length := by rw [toB_len L h]; unfold sgN; omega
  have e2 : opN L = bval ((toB L).map (!·)) := by unfold opN mkN; rw [bval_not', e]
  rw [e2, e]
  have := bitsN_bval' ((toB L).map (!·))
  rw [List.length_map] at this
  rw [this]
theorem opp_opp {L : List Int} (h : ∀ x ∈ L, 1 ≤ x) : opp (opp L) = L := by
  by_cases h0 : L = []
  · subst h0; rw [opp_nil, opp_nil]
  · have e := opp_bits h h0
    obtain ⟨x, r, hx⟩ := ofB_ne ((toB L).map (!·))
    have := opp_bits (L := opp L) (by rw [e]; exact ofB_pos _) (by rw [e, hx]; simp)
    rw [this, e, toB_ofB, List.map_map]
    have e3 : (toB L).map ((fun x => !x) ∘ fun x => !x) = toB L := by
      conv => rhs; rw [← List.map_id (toB L)]
      apply List.map_congr_left; intro b _; simp
    rw [e3, ofB_toB L h0 h]
theorem opp_sum (L : List Int) (h : 0 ≤ sumL L) : sumL (opp L) = sumL L := by unfold opp; rw [smk_sum]; unfold sgN; omega
theorem opp_ok {L : List Int} (h : vsm L = true) : vsm (opp L) = true := smk_ok _ (by have := vsm_bd h; unfold sgN; omega)
theorem opp_len {L : List Int} (h : ∀ x ∈ L, 1 ≤ x) (h0 : L ≠ []) : (L.length : Int) + (opp L).length = sumL L + 1 := by
  have e := opp_bits h h0
  have e2 := ofB_toB L h0 h
  have l1 := ofB_len ((toB L).map (!·))
  have l2 := ofB_len (toB L)
  rw [e2] at l2
  have hc := count_not (toB L)
  rw [toB_len L h] at hc
  have hs := sum_len h
  have hl : 0 < L.length := List.length_pos_iff.2 h0
  rw [e, l1]
  omega
theorem sumL_rev (L : List Int) : sumL L.reverse = sumL L := by
  induction L with
  | nil => rfl
  | cons x r ih => rw [List.reverse_cons, sumL_append, ih]; simp [sumL]; omega
theorem vsm_rev {L : List Int} (h : vsm L = true) : vsm L.reverse = true := by
  rw [vsm_iff] at *
  exact ⟨fun x hx => h.1 x (by simpa using hx), by rw [sumL_rev]; exact h.2⟩
theorem opp_rev {L : List Int} (h : ∀ x ∈ L, 1 ≤ x) : opp L.reverse = (opp L).reverse := by
  by_cases h0 : L = []
  · subst h0; simp [opp_nil]
  · have hr : ∀ x ∈ L.reverse, 1 ≤ x := fun x hx => h x (by simpa using hx)
    have e : toB L.reverse = (toB L).reverse := by
      rw [← toB_ofB (toB L).reverse, ofB_rev, ofB_toB L h0 h]
    rw [opp_bits h h0, opp_bits hr (by simpa using h0), e, List.map_reverse, ofB_rev]
/-- summands behind others -/
def lnk (c d : List Int) (near : Bool) : List Int :=
  if near = true ∧ c ≠ [] ∧ d ≠ [] then c.dropLast ++ addHd (c.getLastD 0) d else c ++ d
theorem lnk_bits {c d : List Int} (hc : ∀ x ∈ c, 1 ≤ x) (hd : ∀ x ∈ d, 1 ≤ x) (c0 : c ≠ []) (d0 : d ≠ []) (near : Bool) : lnk c d near = ofB (toB c ++ (!near) :: toB d) := by
  unfold lnk
  cases near with
  | true =>
    rw [if_pos ⟨rfl, c0, d0⟩]
    have hl : c.dropLast ++ [c.getLastD 0] = c := by
      rw [List.getLastD_eq_getLast?, List.getLast?_eq_some_getLast c0]
      exact List.dropLast_concat_getLast c0
    have := ofB_false (toB c) (toB d) c.dropLast (c.getLastD 0) (by rw [ofB_toB c c0 hc, hl])
    rw [ofB_toB d d0 hd] at this
    exact this.symm
  | false =>
    rw [if_neg (by simp)]
    show _ = ofB (toB c ++ true :: toB d)
    rw [ofB_true, ofB_toB c c0 hc, ofB_toB d d0 hd]
theorem lnk_nil_left (d : List Int) (near : Bool) : lnk [] d near = d := by simp [lnk]
theorem lnk_nil_right (c : List Int) (near : Bool) : lnk c [] near = c := by simp [lnk]
theorem lnk_pos {c d : List Int} (hc : ∀ x ∈ c, 1 ≤ x) (hd : ∀ x ∈ d, 1 ≤ x) (near : Bool) : ∀ x ∈ lnk c d near, 1 ≤ x := by
  by_cases c0 : c = []
  · subst c0; rw [lnk_nil_left]; exact hd
  · by_cases d0 : d = []
    · subst d0; rw [lnk_nil_right]; exact hc
    · rw [lnk_bits hc hd c0 d0]; exact ofB_pos _
theorem addHd_sum (r : Int) (L : List Int) : sumL (addHd r L) = r + sumL L := by
  cases L <;> simp [addHd, sumL]; omega
theorem lnk_sum (c d : List Int) (near : Bool) : sumL (lnk c d near) = sumL c + sumL d := by
  unfold lnk
  split
  · rename_i h
    have hl : c.dropLast ++ [c.getLastD 0] = c := by
      rw [List.getLastD_eq_getLast?, List.getLast?_eq_some_getLast h.2.1]
      exact List.dropLast_concat_getLast h.2.1
    have := congrArg sumL hl
    rw [sumL_append] at this
    simp only [sumL] at this
    rw [sumL_append, addHd_sum]; omega
  · rw [sumL_append]
theorem opp_lnk {c d : List Int} (hc : ∀ x ∈ c, 1 ≤ x) (hd : ∀ x ∈ d, 1 ≤ x) (near : Bool) : opp (lnk c d near) = lnk (opp c) (opp d) (!near) := by
  by_cases c0 : c = []
  · subst c0; rw [lnk_nil_left, opp_nil, lnk_nil_left]
  · by_cases d0 : d = []
    · subst d0; rw [lnk_nil_right, opp_nil, lnk_nil_right]
    · have hp := lnk_pos hc hd near
      have e := lnk_bits hc hd c0 d0 near
      obtain ⟨x, r, hx⟩ := ofB_ne (toB c ++ (!near) :: toB d)
      have hne : lnk c d near ≠ [] := by rw [e, hx]; simp
      have ec := opp_bits hc c0
      have ed := opp_bits hd d0
      have hc' : ∀ x ∈ opp c, 1 ≤ x := by rw [ec]; exact ofB_pos _
      have hd' : ∀ x ∈ opp d, 1 ≤ x := by rw [ed]; exact ofB_pos _
      obtain ⟨_, _, h1⟩ := ofB_ne ((toB c).map (!·))
      obtain ⟨_, _, h2⟩ := ofB_ne ((toB d).map (!·))
      rw [opp_bits hp hne, e, toB_ofB, lnk_bits hc' hd' (by rw [ec, h1]; simp) (by rw [ed, h2]; simp), ec, ed, toB_ofB, toB_ofB]
      simp
/-- the summands that a sum and bits of a link are -/
theorem smk_lnk {c d : List Int} (hc : ∀ x ∈ c, 1 ≤ x) (hd : ∀ x ∈ d, 1 ≤ x) (c0 : c ≠ []) (d0 : d ≠ []) (near : Bool) :
    smk (sgN c + sgN d) (mkN c + 2 ^ (sgN c - 1) * (if near = true then 0 else 1) + 2 ^ sgN c * mkN d) = lnk c d near := by
  have hs := sum_len hc
  have hs2 := sum_len hd
  have hl : 0 < c.length := List.length_pos_iff.2 c0
  have hl2 : 0 < d.length := List.length_pos_iff.2 d0
  have e1 : (toB c).length = sgN c - 1 := by rw [toB_len c hc]; unfold sgN; omega
  have e2 : (toB d).length = sgN d - 1 := by rw [toB_len d hd]; unfold sgN; omega
  have hg : 0 < sgN c := by unfold sgN; omega
  have hg2 : 0 < sgN d := by unfold sgN; omega
  rw [lnk_bits hc hd c0 d0]
  have hlen : (toB c ++ (!near) :: toB d).length = sgN c + sgN d - 1 := by simp [e1, e2]; omega
  have hval : bval (toB c ++ (!near) :: toB d) = mkN c + 2 ^ (sgN c - 1) * (if near = true then 0 else 1) + 2 ^ sgN c * mkN d := by
    rw [bval_append, e1]
    simp only [bval]
    have hp : 2 ^ sgN c = 2 ^ (sgN c - 1) * 2 := by rw [← Nat.pow_succ]; congr 1; omega
    rw [hp, Nat.mul_add, ← Nat.mul_assoc, ← Nat.add_assoc]
    unfold mkN
    cases near <;> simp
  unfold smk
  rw [if_neg (by omega), ← hval, ← hlen, bitsN_bval']
end NP
end Go.Proofs.Ythafbdpeignccaa
namespace Go.Proofs.Ythafbdpeignccaa
namespace NP
def mkF (L : List Int) : Int := if vsm L = true then (mkN L : Int) else -1
theorem mkF_yes {L : List Int} (h : vsm L = true) : mkF L = (mkN L : Int) := by unfold mkF; rw [if_pos h]
theorem mkF_no {L : List Int} (h : vsm L = false) : mkF L = -1 := by unfold mkF; rw [if_neg (by rw [h]; decide)]
/-- whether a sum has the bits -/
def smOk (n m : Int) : Bool := decide (0 ≤ n) && decide (n ≤ 16) && decide (0 ≤ m) && decide (m < ((2 ^ (n.toNat - 1) : Nat) : Int))
def smkF (n m : Int) : List Int := if smOk n m = true then smk n.toNat m.toNat else []
theorem smOk_iff {n m : Int} : smOk n m = true ↔ 0 ≤ n ∧ n ≤ 16 ∧ 0 ≤ m ∧ m < ((2 ^ (n.toNat - 1) : Nat) : Int) := by simp only [smOk, Bool.and_eq_true, decide_eq_true_eq]; omega
theorem smkF_yes {n m : Int} (h : smOk n m = true) : smkF n m = smk n.toNat m.toNat := by unfold smkF; rw [if_pos h]
theorem smkF_no {n m : Int} (h : smOk n m = false) : smkF n m = [] := by unfold smkF; rw [if_neg (by rw [h]; decide)]
theorem smk_len16 {n : Nat} (m : Nat) (h : n ≤ 16) : (smk n m).length ≤ 16 := by have := smk_len n m; omega
theorem smkF_len (n m : Int) : (smkF n m).length ≤ 16 := by
  cases h : smOk n m with
  | true => rw [smkF_yes h]; rw [smOk_iff] at h; exact smk_len16 _ (by omega)
  | false => rw [smkF_no h]; simp
def oppF (L : List Int) : List Int := if vsm L = true then opp L else []
theorem oppF_yes {L : List Int} (h : vsm L = true) : oppF L = opp L := by unfold oppF; rw [if_pos h]
theorem oppF_no {L : List Int} (h : vsm L = false) : oppF L = [] := by unfold oppF; rw [if_neg (by rw [h]; decide)]
theorem oppF_len (L : List Int) : (oppF L).length ≤ 16 := by
  cases h : vsm L with
  | true => rw [oppF_yes h]; exact (vsm_bd (opp_ok h)).2.2.2
  | false => rw [oppF_no h]; simp
def trnF (L : List Int) : List Int := if vsm L = true then L.reverse else []
theorem trnF_yes {L : List Int} (h : vsm L = true) : trnF L = L.reverse := by unfold trnF; rw [if_pos h]
theorem trnF_no {L : List Int} (h : vsm L = false) : trnF L = [] := by unfold trnF; rw [if_neg (by rw [h]; decide)]
theorem trnF_len (L : List Int) : (trnF L).length ≤ 16 := by
  cases h : vsm L with
  | true => rw [trnF_yes h, List.length_reverse]; exact (vsm_bd h).2.2.2
  | false => rw [trnF_no h]; simp
def lnkOk (c d : List Int) : Bool := vsm c && vsm d && decide (sumL c + sumL d ≤ 16)
def lnkF (c d : List Int) (near : Bool) : List Int := if lnkOk c d = true then lnk c d near else []
theorem lnkOk_iff {c d : List Int} : lnkOk c d = true ↔ vsm c = true ∧ vsm d = true ∧ sumL c + sumL d ≤ 16 := by simp [lnkOk, and_assoc]
theorem lnkF_yes {c d : List Int} (h : lnkOk c d = true) (near : Bool) : lnkF c d near = lnk c d near := by unfold lnkF; rw [if_pos h]
theorem lnkF_no {c d : List Int} (h : lnkOk c d = false) (near : Bool) : lnkF c d near = [] := by unfold lnkF; rw [if_neg (by rw [h]; decide)]
theorem lnk_ok {c d : List Int} (h : lnkOk c d = true) (near : Bool) : vsm (lnk c d near) = true := by
  rw [lnkOk_iff] at h
  rw [vsm_iff, lnk_sum]
  exact ⟨lnk_pos (vsm_iff.1 h.1).1 (vsm_iff.1 h.2.1).1 near, h.2.2⟩
theorem lnkF_len (c d : List Int) (near : Bool) : (lnkF c d near).length ≤ 16 := by
  cases h : lnkOk c d with
  | true => rw [lnkF_yes h]; exact (vsm_bd (lnk_ok h near)).2.2.2
  | false => rw [lnkF_no h]; simp
theorem lnkOk_opp {c d : List Int} (h : lnkOk c d = true) : lnkOk (opp c) (opp d) = true := by
  rw [lnkOk_iff] at *
  have h1 := vsm_bd h.1
  have h2 := vsm_bd h.2.1
  exact ⟨opp_ok h.1, opp_ok h.2.1, by rw [opp_sum _ h1.1, opp_sum _ h2.1]; exact h.2.2⟩
/-- the sum and bits of a link are the link -/
theorem smk_link {c d : List Int} (hc : ∀ x ∈ c, 1 ≤ x) (hd : ∀ x ∈ d, 1 ≤ x) (near : Bool) :
    smk (sgN c + sgN d) (mkN c + 2 ^ (sgN c - 1) * (if near = true ∨ sgN c = 0 ∨ sgN d = 0 then 0 else 1) + 2 ^ sgN c * mkN d) = lnk c d near := by
  have e0 : sgN [] = 0 := rfl
  have m0 : mkN [] = 0 := rfl
  by_cases c0 : c = []
  · subst c0
    rw [lnk_nil_left, e0, m0]
    simp [smk_mkN hd]
  · by_cases d0 : d = []
    · subst d0
      rw [lnk_nil_right, e0, m0]
      simp [smk_mkN hc]
    · have := smk_lnk hc hd c0 d0 near
      have h1 := sum_len hc
      have h2 := sum_len hd
      have l1 : 0 < c.length := List.length_pos_iff.2 c0
      have l2 : 0 < d.length := List.length_pos_iff.2 d0
      have g1 : ¬ sgN c = 0 := by unfold sgN; omega
      have g2 : ¬ sgN d = 0 := by unfold sgN; omega
      simp only [g1, g2, or_false]
      exact this
def finF (c d : List Int) : Bool := vsm c && vsm d && (decide (sgN c = sgN d) && decide (mkN c &&& mkN d = mkN d))
theorem finF_no {c d : List Int} (h : (vsm c && vsm d) = false) : finF c d = false := by unfold finF; rw [h]; rfl
theorem finF_yes {c d : List Int} (h : vsm c = true) (h2 : vsm d = true) : finF c d = (decide (sgN c = sgN d) && decide (mkN c &&& mkN d = mkN d)) := by unfold finF; rw [h, h2]; rfl
theorem pow16 {n : Nat} (h : n ≤ 16) : 2 ^ (n - 1) ≤ 32768 := by
  have : (2 : Nat) ^ (n - 1) ≤ 2 ^ 15 := Nat.pow_le_pow_right (by omega) (by omega)
  omega
theorem mkN_16 {L : List Int} (h : vsm L = true) : mkN L < 32768 := by
  have h1 := mkN_lt (vsm_iff.1 h).1
  have h2 := vsm_bd h
  have := pow16 (n := sgN L) (by unfold sgN; omega)
  omega
theorem smM_16 (L : List Int) : smM L < 32768 := by
  have h1 := smM_lt L
  have := pow16 (smS_le L)
  omega
end NP
end Go.Proofs.Ythafbdpeignccaa
