/-
  Walks of the model: marked parts turned, whether they are marked parts or not.
-/
import Derived.Test.YtbbbfaollcklkaaW97
import Derived.Test.YtbbbfaollcklkaaW95
namespace Go.Proofs.Ytbbbfaollcklkaa
open Go.RowKit NP
set_option maxRecDepth 100000
set_option linter.unusedVariables false
set_option linter.unusedSimpArgs false
theorem sTurnMarked_no (a1 a2 : Option Addr) (c1 c2 B1 B2 : Nat) (L : List Int) (bs : List Bool) (w : World) (h1 : Rd w B1 a1 (ints L)) (h2 : Rd w B2 a2 (bls bs)) (hB1 : B1 ≤ w.heap.size) (hB2 : B2 ≤ w.heap.size) (hl1 : L.length ≤ 4611686018427387904) (hl2 : bs.length ≤ 4611686018427387904) (hv : vmk L bs = false) :
    Calls Try.prog 33 #[.agg #[.slice a1 L.length c1, .slice a2 bs.length c2]] w fun e w' => e = .returned (.agg #[.slice none 0 0, .slice none 0 0]) ∧ Below w.heap.size w w' := by
  have hmu := Try.underlying28
  have hi2 : (Try.prog.info? 28).map (·.size) = some 2 := T_mkL
  have hA0 : Below w.heap.size w ((w.alloc (.cells #[.slice a1 L.length c1, .slice a2 bs.length c2] 28)).alloc (.cells #[.slice none 0 0, .slice none 0 0] 28)) := ((Below.refl _ _).alloc (Nat.le_refl _) _).alloc (by simp) _
  have hb0 := (Blk.new w 28 #[.slice a1 L.length c1, .slice a2 bs.length c2]).alloc (.cells #[.slice none 0 0, .slice none 0 0] 28)
  have hr0 : Blk ((w.alloc (.cells #[.slice a1 L.length c1, .slice a2 bs.length c2] 28)).alloc (.cells #[.slice none 0 0, .slice none 0 0] 28)) (w.heap.size + 1) 28 #[.slice none 0 0, .slice none 0 0] := by
    have e := Blk.new (w.alloc (.cells #[.slice a1 L.length c1, .slice a2 bs.length c2] 28)) 28 #[.slice none 0 0, .slice none 0 0]
    rw [World.size_alloc] at e
    exact e
  obtain ⟨W, hW⟩ : ∃ W, (w.alloc (.cells #[.slice a1 L.length c1, .slice a2 bs.length c2] 28)).alloc (.cells #[.slice none 0 0, .slice none 0 0] 28) = W := ⟨_, rfl⟩
  have hWs : w.heap.size + 2 ≤ W.heap.size := by rw [← hW]; simp
  rw [hW] at hA0 hb0 hr0
  have hws : w.heap.size ≤ W.heap.size := by omega
  have HVM := Lib.hid (validMarked_any a1 a2 c1 c2 w.heap.size w.heap.size L bs W ((h1.more hB1).below hA0) ((h2.more hB2).below hA0) hws hws hl1 hl2)
  rw [hv] at HVM
  clear hv h1 h2
  have m10 : W.cell? ⟨w.heap.size, 0, none⟩ = some (.slice a1 L.length c1) := hb0.cell 0
  have m20 : W.cell? ⟨w.heap.size, 1, none⟩ = some (.slice a2 bs.length c2) := hb0.cell 1
  go_enter Try.func33, Try.ntmps33
  go_wp2_with (first
    | (go_at_call 38; refine HVM.out.mono ?_; rintro e w1 ⟨rfl, hb1⟩; have hr1 := hr0.below hb1 hr0.lt; have hz1 := hb1.size; have hbe1 := hA0.trans (hb1.mono hws))
    | (refine wpList_store_row rfl 28 (.tmp 2) _ rfl (w.heap.size + 1) rfl #[.slice none 0 0, .slice none 0 0] rfl 28 _ hr1 hi2 rfl (by simp [Value.oneCell']) ?_))
  refine bodyPost_ret (results_cell_row rfl _ _ (w.heap.size + 1) 28 #[.slice none 0 0, .slice none 0 0] (0, 0) _ rfl hr1.row hmu rfl hi2) rfl ?_
  exact ⟨rfl, below_setRow' hbe1 (by omega) _⟩
theorem sTurnMarked_all (a1 a2 : Option Addr) (c1 c2 B1 B2 : Nat) (L : List Int) (bs : List Bool) (w : World) (h1 : Rd w B1 a1 (ints L)) (h2 : Rd w B2 a2 (bls bs)) (hB1 : B1 ≤ w.heap.size) (hB2 : B2 ≤ w.heap.size) (hl1 : L.length ≤ 4611686018427387904) (hl2 : bs.length ≤ 4611686018427387904) :
    Calls Try.prog 33 #[.agg #[.slice a1 L.length c1, .slice a2 bs.length c2]] w fun e w' => ∃ b1 d1 b2 d2, e = .returned (.agg #[.slice b1 (tnL L bs).length d1, .slice b2 (tnB L bs).length d2]) ∧ Own w' w.heap.size w'.heap.size 3 (.slice b1 (tnL L bs).length d1) (ints (tnL L bs)) ∧ Own w' w.heap.size w'.heap.size 4 (.slice b2 (tnB L bs).length d2) (bls (tnB L bs)) ∧ Below w.heap.size w w' := by
  cases hv : vmk L bs with
  | true =>
    have e := tn_yes hv
    rw [e.1, e.2]
    exact sTurnMarked_any a1 a2 c1 c2 B1 B2 L bs w h1 h2 hB1 hB2 hl1 hl2 hv
  | false =>
    have e := tn_no hv
    rw [e.1, e.2]
    refine (sTurnMarked_no a1 a2 c1 c2 B1 B2 L bs w h1 h2 hB1 hB2 hl1 hl2 hv).mono ?_
    rintro e w' ⟨rfl, hb⟩
    exact ⟨none, 0, none, 0, rfl, own_nil3 w' _ _ _ (Nat.le_refl _), own_nil3 w' _ _ _ (Nat.le_refl _), hb⟩
end Go.Proofs.Ytbbbfaollcklkaa
