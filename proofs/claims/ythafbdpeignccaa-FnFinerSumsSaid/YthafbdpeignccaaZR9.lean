/-
  Walks of the program: squares cut off and put back. Walks of the program: squares put back; SquareCut, SquarePut. Walks of the program: SquareCut, SquarePut. Walks: parts united and added, of the model.
-/
import Derived.Test.YthafbdpeignccaaZR1
import Derived.Test.YthafbdpeignccaaZR2
import Derived.Test.YthafbdpeignccaaZR3
import Derived.Test.YthafbdpeignccaaZR4
import Derived.Test.YthafbdpeignccaaZR5
import Derived.Test.YthafbdpeignccaaZR6
import Derived.Test.YthafbdpeignccaaZR7
import Derived.Test.YthafbdpeignccaaZR8
namespace Go.Proofs.Ythafbdpeignccaa
open Go.RowKit NP
set_option maxRecDepth 8000
set_option linter.unusedVariables false
set_option linter.unusedSimpArgs false

theorem results_2cells {P : Program} {fn : Func} {p1 p2 : Tmp} {ty : TypeId} (h : fn.results = #[.cell p1 ty, .cell p2 ty]) (tmps : Array Value) (w : World) (g1 g2 : Nat) (c1 c2 : List Value) (d : TypeDesc)
    (hp1 : tmps.getD p1 undef = .pointer (some ⟨g1, 0, none⟩)) (hp2 : tmps.getD p2 undef = .pointer (some ⟨g2, 0, none⟩)) (h1 : w.rangeAt g1 0 c1) (h2 : w.rangeAt g2 0 c2)
    (hu : P.underlying ty = some d) (hd : d.isRow = true) (hi1 : (P.info? ty).map (·.size) = some c1.length) (hi2 : (P.info? ty).map (·.size) = some c2.length) :
    (results fn tmps).run P w = .ok (.tuple #[.agg c1.toArray, .agg c2.toArray]) w := by
  have hp1' : tmps[p1]?.getD undef = .pointer (some ⟨g1, 0, none⟩) := by simpa using hp1
  have hp2' : tmps[p2]?.getD undef = .pointer (some ⟨g2, 0, none⟩) := by simpa using hp2
  simp [results, h, hp1', hp2', asAddr, run_loadVar_mid w g1 0 ty c1 d h1 hu hd hi1, run_loadVar_mid w g2 0 ty c2 d h2 hu hd hi2]
theorem results_1cell {P : Program} {fn : Func} {p1 : Tmp} {ty : TypeId} (h : fn.results = #[.cell p1 ty]) (tmps : Array Value) (w : World) (g1 : Nat) (c1 : List Value) (d : TypeDesc)
    (hp1 : tmps.getD p1 undef = .pointer (some ⟨g1, 0, none⟩)) (h1 : w.rangeAt g1 0 c1)
    (hu : P.underlying ty = some d) (hd : d.isRow = true) (hi1 : (P.info? ty).map (·.size) = some c1.length) :
    (results fn tmps).run P w = .ok (.agg c1.toArray) w := by
  have hp1' : tmps[p1]?.getD undef = .pointer (some ⟨g1, 0, none⟩) := by simpa using hp1
  simp [results, h, hp1', asAddr, run_loadVar_mid w g1 0 ty c1 d h1 hu hd hi1]
theorem wpList_copy_apart {P : Program} {w : World} {ops : Array Oper} {rest : List Oper} {o : Oper} {a : Act} {Q : Exit → Act → World → Prop} (hgd : o.guard = none) (d s : Operand) (dT sT : TypeId)
    (ho : o.op = .call { callee := .builtin .copy, args := #[d, s], argTypes := #[dT, sT] }) (elem : TypeId) (hu : P.underlying dT = some (.slice elem)) (hsz : (P.info? elem).map (·.size) = some 1)
    (dp sp : Option Addr) (dLen dCap sLen sCap : Nat) (hd : a.eval d = .slice dp dLen dCap) (hs : a.eval s = .slice sp sLen sCap)
    (g off : Nat) (cur : List Value) (t : TypeId) (hg : w.heap[g]? = some (.cells cur.toArray t (0, 0))) (cs : List Value) (hn : cs.length = Nat.min sLen dLen)
    (hpos : 0 < cs.length → dp = some ⟨g, off, none⟩ ∧ ∃ ad, sp = some ad ∧ ∀ j v, cs[j]? = some v → w.cell? (ad.add j) = some v)
    (hfit : off + cs.length ≤ cur.length) (h1 : ∀ v ∈ cs, v.oneCell' = true) (B : Nat) (w0 : World) (hb : Below B w0 w) (hBg : B ≤ g)
    (h : ∀ w', Blk w' g t (splice cur off cs).toArray → (∀ q, q ≠ g → w'.heap[q]? = w.heap[q]?) → Below B w0 w' → wpList P ops Q rest (a.put o.dst (goInt cs.length)) w') :
    wpList P ops Q (o :: rest) a w := by
  by_cases h0 : cs.length = 0
  · obtain rfl : cs = [] := List.eq_nil_of_length_eq_zero h0
    refine wpList_copy_nothing hgd d s dT sT ho elem hu hsz dp sp dLen dCap sLen sCap hd hs (by simpa using hn.symm) ?_
    exact h w (show _ = _ by simpa [splice] using hg) (fun _ _ => rfl) hb
  · obtain ⟨rfl, ad, rfl, hsrc⟩ := hpos (by omega)
    refine wpList_copy_own hgd d s dT sT ho elem hu hsz g off dLen dCap ad sLen sCap hd hs cur.toArray t hg cs hn hsrc (by simpa using hfit) h1 ?_
    exact h _ (show _ = _ by simpa [splice] using setRow_heap w g _ _ t _ hg) (fun q hq => setRow_other w g q _ hq) (below_setRow hb hBg _)
def rowsOf (D : List Int) (n : Nat) : List Int := D.take n ++ List.replicate (16 - n) 0
def lowOf (D : List Int) (n : Nat) : List Int := D.drop n ++ List.replicate n 0
theorem rowsOf_len {D : List Int} {n : Nat} (hD : D.length = 16) (h : n ≤ 16) : (rowsOf D n).length = 16 := by simp [rowsOf, hD]; omega
theorem lowOf_len {D : List Int} {n : Nat} (hD : D.length = 16) (h : n ≤ 16) : (lowOf D n).length = 16 := by simp [lowOf, hD]; omega
theorem rowsOf_getD (D : List Int) (n j : Nat) (hn : n ≤ D.length) : (rowsOf D n).getD j 0 = if j < n then D.getD j 0 else 0 := by
  unfold rowsOf
  rw [getD_app, List.length_take_of_le hn, getD_take]
  split
  · rfl
  · rw [List.getD_eq_getElem?_getD, List.getElem?_replicate]; split <;> rfl
theorem splice_rows {D : List Int} {n : Nat} (hD : D.length = 16) (h : n ≤ 16) : splice (ints (List.replicate 16 0)) 0 (ints (D.take n)) = ints (rowsOf D n) := by
  have e : List.replicate 16 (0 : Int) = List.replicate n 0 ++ List.replicate (16 - n) 0 := by rw [List.replicate_append_replicate]; congr 1; omega
  have hl : (ints (D.take n)).length = n := by simp [hD]; omega
  unfold splice
  rw [List.take_zero, List.nil_append, Nat.zero_add, hl, e, rowsOf]
  simp
theorem splice_low {D : List Int} {n : Nat} (hD : D.length = 16) (h : n ≤ 16) : splice (ints (List.replicate 16 0)) 0 (ints (D.drop n)) = ints (lowOf D n) := by
  have e : List.replicate 16 (0 : Int) = List.replicate (16 - n) 0 ++ List.replicate n 0 := by rw [List.replicate_append_replicate]; congr 1; omega
  have hl : (ints (D.drop n)).length = 16 - n := by simp [hD]
  unfold splice
  rw [List.take_zero, List.nil_append, Nat.zero_add, hl, e, lowOf]
  simp
theorem rng_of {w : World} {g : Nat} {t : TypeId} {D : List Int} (h : Blk w g t (arr D)) : w.rangeAt g 0 (ints D) := Blk.range (vs := ints D) h

end Go.Proofs.Ythafbdpeignccaa
namespace Go.Proofs.Ythafbdpeignccaa
open Go.RowKit NP
set_option maxRecDepth 8000
set_option linter.unusedVariables false
set_option linter.unusedSimpArgs false
theorem sum_small {D : List Int} (h : ∀ x ∈ D, 0 ≤ x ∧ x ≤ 1000) : 0 ≤ sumL D ∧ sumL D ≤ 1000 * D.length := by
  induction D with
  | nil => simp [sumL]
  | cons x r ih =>
    have h1 := h x (by simp)
    have h2 := ih fun y hy => h y (by simp [hy])
    simp only [sumL, List.length_cons]
    omega
theorem fits_small {D : List Int} (h : ∀ x ∈ D, 0 ≤ x ∧ x ≤ 1000) (hl : D.length ≤ 1000) : sumFits D := fun k hk => by
  have := sum_small (D := D.take k) fun x hx => h x (List.mem_of_mem_take hx)
  have h2 : (D.take k).length ≤ 1000 := by rw [List.length_take]; omega
  omega
theorem sqs_small {n : Nat} (h : n ≤ 16) : ∀ x ∈ pad (sqs n), 0 ≤ x ∧ x ≤ 1000 := fun x hx => by
  unfold pad sqs at hx
  rcases List.mem_append.1 hx with hx | hx
  · rw [List.mem_replicate] at hx; omega
  · rw [List.mem_replicate] at hx; omega
theorem sq_bd {n : Nat} (h : n ≤ 16) : 0 ≤ (n : Int) * (n : Int) ∧ (n : Int) * (n : Int) ≤ 256 := by
  refine ⟨Int.mul_nonneg (by omega) (by omega), ?_⟩
  have h1 : (n : Int) ≤ 16 := by omega
  have : (n : Int) * (n : Int) ≤ 16 * 16 := Int.mul_le_mul h1 h1 (by omega) (by omega)
  omega
theorem sqOk_no1 {d : Int} {R B : List Int} (h : ¬ ((R.length : Int) ≤ d)) : sqOk d R B = false := by
  cases hk : sqOk d R B with
  | false => rfl
  | true => exact absurd ((sqOk_iff _ _ _).1 hk).2.2.2.2.1 h
theorem sqOk_no2 {d : Int} {R B : List Int} (h : ¬ (B.getD 0 0 ≤ d)) : sqOk d R B = false := by
  cases hk : sqOk d R B with
  | false => rfl
  | true => exact absurd ((sqOk_iff _ _ _).1 hk).2.2.2.2.2.1 h
theorem sqOk_no3 {d : Int} {R B : List Int} (h : ¬ (d ≤ 16)) : sqOk d R B = false := by
  cases hk : sqOk d R B with
  | false => rfl
  | true => exact absurd ((sqOk_iff _ _ _).1 hk).2.1 h
theorem sqOk_val {n : Nat} {R B : List Int} (hR : valid R = true) (hB : valid B = true) (h1 : (R.length : Int) ≤ n) (h2 : B.getD 0 0 ≤ n) (h3 : (n : Int) ≤ 16) : sqOk n R B = decide ((n : Int) * n + sumL R + sumL B ≤ 16) := by
  unfold sqOk
  rw [hR, hB, decide_eq_true h1, decide_eq_true h2, decide_eq_true h3, decide_eq_true (by omega : (0 : Int) ≤ n)]
  rfl
theorem sqOk_two {d : Int} {R B : List Int} (h : two R B = false) : sqOk d R B = false := by
  cases hk : sqOk d R B with
  | false => rfl
  | true =>
    obtain ⟨h0, h16, hvR, hvB, _, _, hs⟩ := (sqOk_iff _ _ _).1 hk
    have : 0 ≤ d * d := Int.mul_nonneg h0 h0
    simp [two, hvR, hvB] at h
    omega

theorem _root_.Go.World.rangeAt.below_range {w w' : World} {b o : Nat} {cs : List Value} (h : w.rangeAt b o cs) (hb : Below w.heap.size w w') : w'.rangeAt b o cs := range_below h hb


end Go.Proofs.Ythafbdpeignccaa
namespace Go.Proofs.Ythafbdpeignccaa
open Go.RowKit NP
set_option maxRecDepth 8000
set_option linter.unusedVariables false
set_option linter.unusedSimpArgs false
theorem lowOf_pad {L : List Int} {n : Nat} (hn : n ≤ L.length) (hl : L.length ≤ 16) : lowOf (pad L) n = pad (L.drop n) := by
  unfold lowOf pad
  rw [List.drop_append_of_le_length hn, List.append_assoc, List.replicate_append_replicate, List.length_drop]
  congr 2
  omega
theorem amid_sq {L : List Int} (hl : L.length ≤ 16) (hn : durS L ≤ L.length) : amid (rowsOf (pad L) (durS L)) (neg (pad (sqs (durS L)))) 16 = sqArr L := by
  unfold amid sqArr
  apply List.map_congr_left
  intro j hj
  have hj16 := List.mem_range.1 hj
  rw [if_pos hj16, rowsOf_getD _ _ _ (by rw [pad_len hl]; omega), neg_getD, pad_getD hl, pad_getD (by simp [sqs]; omega), sqs_getD]
  split <;> omega


end Go.Proofs.Ythafbdpeignccaa
namespace Go.Proofs.Ythafbdpeignccaa
open Go.RowKit NP
set_option maxRecDepth 8000
set_option linter.unusedVariables false
theorem Rd.grownNew {w w' : World} {B : Nat} {a : Option Addr} {vs : List Value} (h : Rd w B a vs) (hb : Below w.heap.size w w') (hB : B ≤ w.heap.size) : Rd w' B a vs := h.below (hb.mono hB)


end Go.Proofs.Ythafbdpeignccaa
