/-
  What the table of partners reads as, for the walks.
-/
import Derived.Test.YtmlomapifldlpaaDoorPn1
import Derived.Test.YtmlomapifldlpaaDoorRows
import Derived.ProofKit
import Derived.LaidMore
import Derived.OpenShut
import Derived.OpenVars
import Derived.MakeChecks
import Derived.Stop.Joined
namespace Go.Proofs.YtmlomapifldlpaaDoor
open Go.ChangeShapes Go.WideShapes Go.ChangeAt Go.WideMaps Go.WideElems Go.RowKit
set_option linter.unusedVariables false
namespace NP
end NP
def pnLaid : List (String × DataW Unit) := [("loop.example/numberparts/impl.partners", Rows.laid_loop_example_numberparts_impl_partners)]
theorem gPn : Tryd.prog.globalNamed "loop.example/numberparts/impl.partners" = some 0 := by kernel_rfl
theorem tPn : (Tryd.prog.globals[0]?).map (·.type) = some 33 := by kernel_rfl
theorem door_met (os : Os) (args : Array Value) : laidMetH Tryd.prog pnLaid ((World.doorLaid Tryd.prog 400 os).forCall (fun _ _ => 0) ⟨#[], args, []⟩).memory :=
  laidMetH_of_parts3 (fuel := 8) (laidMet_of_run' 8 (by kernel_rfl) (by kernel_rfl)) (by kernel_rfl) (by kernel_rfl)
theorem ba_of {s : ByteArray} {l : List UInt8} (h : s.data.toList = l) : s = ⟨l.toArray⟩ := by subst h; simp
theorem pn_pair {H : Type} {enc : TypeId × Value → H} {W : World} {base : Nat} {spare : Nat → Bool} {held : Bool} {fuel : Nat} {cs : List Value} {x : DataW H × List MemPlace} {a b : List UInt8}
    (h : DataW.trod enc Tryd.prog W base spare held fuel 32 cs = some x) (hx : x.1 = .agg [.lit (.string a), .lit (.string b)]) : cs = [.string ⟨a.toArray⟩, .string ⟨b.toArray⟩] := by
  obtain ⟨xs, m, rfl, rfl, hl, hn, hel⟩ := DataW.trod_array Tryd.underlying32 h
  have c9 : Tryd.prog.cellsOf 9 = 1 := by kernel_rfl
  have c2 : Tryd.prog.cellsOf 32 = 2 := by kernel_rfl
  rw [c2] at hl
  have h0 := hel 0 (by omega)
  have h1 := hel 1 (by omega)
  rw [c9] at h0 h1
  match cs, hl, xs, hn with
  | [c0, c1], _, [x0, x1], _ =>
    simp only [Nat.zero_mul, List.drop_zero, List.take_succ_cons, List.take_zero, List.getElem?_cons_zero, Nat.one_mul, List.drop_succ_cons, List.getElem?_cons_succ] at h0 h1
    obtain ⟨s0, e0, rfl, -⟩ := DataW.trod_string Tryd.underlying9 h0
    obtain ⟨s1, e1, rfl, -⟩ := DataW.trod_string Tryd.underlying9 h1
    simp only [List.map_cons, List.map_nil, DataW.agg.injEq, List.cons.injEq, DataW.lit.injEq, Lit.string.injEq, and_true] at hx
    simp only [List.cons.injEq, and_true] at e0 e1
    rw [e0, e1, ba_of hx.1, ba_of hx.2]
theorem of_laid {W : World} (h : laidMetH Tryd.prog pnLaid W) : W.rangeAt 0 0 pnCells := by
  rw [MakeChecks.laidMetH_plain _ _ _ (by kernel_rfl)] at h
  obtain ⟨ps, ⟨g0, t0, cs0, f0, p0, q0, hg0, ht0, hv0, hd0, _⟩, _⟩ := h
  obtain rfl := Option.some.inj (gPn.symm.trans hg0)
  obtain rfl := Option.some.inj (tPn.symm.trans ht0)
  have hcs : cs0.toList = pnCells := by
    obtain ⟨xs, m, rfl, hx, hl, hn, hel⟩ := DataW.trod_array Tryd.underlying33 hd0
    have c2 : Tryd.prog.cellsOf 32 = 2 := by kernel_rfl
    have c12 : Tryd.prog.cellsOf 33 = 12 := by kernel_rfl
    rw [c12] at hl
    have h0 := hel 0 (by omega)
    have h1 := hel 1 (by omega)
    have h2 := hel 2 (by omega)
    have h3 := hel 3 (by omega)
    have h4 := hel 4 (by omega)
    have h5 := hel 5 (by omega)
    rw [c2] at h0 h1 h2 h3 h4 h5
    clear hel hd0
    generalize cs0.toList = cs at hl h0 h1 h2 h3 h4 h5 ⊢
    match cs, hl, xs, hn with
    | [c0, c1, c2, c3, c4, c5, c6, c7, c8, c9, c10, c11], _, [x0, x1, x2, x3, x4, x5], _ =>
      simp only [Prod.mk.injEq, Rows.laid_loop_example_numberparts_impl_partners, DataW.agg.injEq, List.map_cons, List.map_nil, List.cons.injEq, and_true] at hx
      obtain ⟨⟨e0, e1, e2, e3, e4, e5⟩, -⟩ := hx
      have k0 := pn_pair h0 e0.symm
      have k1 := pn_pair h1 e1.symm
      have k2 := pn_pair h2 e2.symm
      have k3 := pn_pair h3 e3.symm
      have k4 := pn_pair h4 e4.symm
      have k5 := pn_pair h5 e5.symm
      simp only [Nat.zero_mul, Nat.one_mul, Nat.reduceMul, List.drop_zero, List.drop_succ_cons, List.take_succ_cons, List.take_zero, List.cons.injEq, and_true] at k0 k1 k2 k3 k4 k5
      obtain ⟨rfl, rfl⟩ := k0
      obtain ⟨rfl, rfl⟩ := k1
      obtain ⟨rfl, rfl⟩ := k2
      obtain ⟨rfl, rfl⟩ := k3
      obtain ⟨rfl, rfl⟩ := k4
      obtain ⟨rfl, rfl⟩ := k5
      rfl
  intro j v hj
  have h1 := World.var?_cell hg0 hv0 j
  rw [Nat.zero_add, h1, ← Array.getElem?_toList, hcs]
  exact hj
end Go.Proofs.YtmlomapifldlpaaDoor
