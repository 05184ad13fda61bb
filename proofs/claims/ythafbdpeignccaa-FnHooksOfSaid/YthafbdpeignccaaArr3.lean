/-
  Arrays of numbers compared.
-/
import Derived.Test.YthafbdpeignccaaArr
import Derived.ChangeKeysEq
namespace Go.Proofs.Ythafbdpeignccaa
open Go.RowKit
theorem run_eqItems_arr {P : Program} {e : TypeId} (he : P.underlying e = some (.int .i64)) (hp : P.plainKey e = true) (d : Nat) (D E : List Int) (w : World) :
    ∀ l : List Nat, (∀ k ∈ l, k < D.length ∧ k < E.length) → (Op.eqItems (d + 1) e 1 (arr D) (arr E) l).run P w = .ok (l.all fun k => D.getD k 0 == E.getD k 0) w
  | [], _ => by simp [Op.eqItems]
  | k :: l, h => by
    obtain ⟨h1, h2⟩ := h k (by simp)
    have ih := run_eqItems_arr he hp d D E w l fun j hj => h j (by simp [hj])
    have p1 : (part e (arr D) (k * 1)).run P w = .ok (.int .i64 D[k]) w := run_part_plain w hp (by rw [Nat.mul_one]; exact arr_get D k h1)
    have p2 : (part e (arr E) (k * 1)).run P w = .ok (.int .i64 E[k]) w := run_part_plain w hp (by rw [Nat.mul_one]; exact arr_get E k h2)
    have p3 := run_equalIn_int (P := P) w d e .i64 .i64 D[k] E[k] he
    have g1 : D.getD k 0 = D[k] := by rw [List.getD_eq_getElem?_getD, List.getElem?_eq_getElem h1]; rfl
    have g2 : E.getD k 0 = E[k] := by rw [List.getD_eq_getElem?_getD, List.getElem?_eq_getElem h2]; rfl
    simp only [Op.eqItems, Sem.run_bind, p1, p2, p3, Result.andThen_ok, List.all_cons, g1, g2]
    cases hq : (D[k] == E[k])
    · simp
    · simpa using ih
theorem all_getD_eq {D E : List Int} (h : D.length = E.length) : ((List.range D.length).all fun k => D.getD k 0 == E.getD k 0) = decide (D = E) := by
  rw [Bool.eq_iff_iff, List.all_eq_true, decide_eq_true_eq]
  constructor
  · intro hh
    apply List.ext_getElem h
    intro i h1 h2
    have := hh i (by simpa using h1)
    rw [List.getD_eq_getElem?_getD, List.getElem?_eq_getElem h1, List.getD_eq_getElem?_getD, List.getElem?_eq_getElem h2] at this
    simpa using this
  · rintro rfl k _
    simp
theorem run_equal_arr {P : Program} {t e : TypeId} {n : Nat} {i : TypeInfo} (ht : P.underlying t = some (.array n e)) (he : P.underlying e = some (.int .i64)) (hp : P.plainKey e = true) (hi : P.info? e = some i) (hc : P.cellsOf e = 1) (D E : List Int) (hD : D.length = n) (hE : E.length = n) (w : World) :
    (Op.equalIn 10000 t (.agg (arr D)) (.agg (arr E))).run P w = .ok (decide (D = E)) w := by
  rw [show (10000 : Nat) = 9998 + 1 + 1 from rfl, run_equalIn_array w (9998 + 1) (arr D) (arr E) ht hi, hc, run_eqItems_arr he hp 9998 D E w _ (fun k hk => by simp at hk; omega), ← hD, all_getD_eq (by omega)]
end Go.Proofs.Ythafbdpeignccaa
