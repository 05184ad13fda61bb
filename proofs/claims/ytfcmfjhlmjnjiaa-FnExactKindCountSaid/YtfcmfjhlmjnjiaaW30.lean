/-
  Walks of the program: parts of a kind led a way.
-/
import Derived.Test.YtfcmfjhlmjnjiaaW29
import Derived.Test.YtfcmfjhlmjnjiaaIsK
import Derived.Test.YtfcmfjhlmjnjiaaArr2
import Derived.Shelf.Abstract
namespace Go.Proofs.Ytfcmfjhlmjnjiaa
open Go.RowKit NP
set_option linter.unusedVariables false
set_option linter.unusedSimpArgs false

/-- a function value that leads each diagram of parts of which K holds to that of the parts F, in every later world -/
def IsWay (w : World) (v : Value) (K : List Int → Bool) (F : List Int → List Int) : Prop := ∃ (f : Nat) (p c : Array Value), v = .func (.func f) p c ∧ (∀ (args : Array Value) (w : World), (callFunc f args).run Try.prog w = .ok (.enter f args) w) ∧ ∀ w1, Below w.heap.size w w1 → ∀ L, valid L = true → K L = true →
  Calls Try.prog f (p.push (.agg (arr (pad L))) ++ c) w1 fun e w2 => e = .returned (.agg (arr (pad (F L)))) ∧ Below w1.heap.size w1 w2
theorem IsK.below {w w' : World} {v : Value} {K : List Int → Bool} (h : IsK w v K) (hb : Below w.heap.size w w') : IsK w' v K := by
  obtain ⟨f, p, c, rfl, he, hh⟩ := h
  exact ⟨f, p, c, rfl, he, fun w1 h1 => hh w1 (hb.trans (h1.mono hb.size))⟩
theorem IsWay.below {w w' : World} {v : Value} {K : List Int → Bool} {F : List Int → List Int} (h : IsWay w v K F) (hb : Below w.heap.size w w') : IsWay w' v K F := by
  obtain ⟨f, p, c, rfl, he, hh⟩ := h
  exact ⟨f, p, c, rfl, he, fun w1 h1 => hh w1 (hb.trans (h1.mono hb.size))⟩
theorem IsWay.at_ {w : World} {v : Value} {K : List Int → Bool} {F : List Int → List Int} (h : IsWay w v K F) (L : List Int) : IsWay w v (fun M => decide (M = L) && K M) F := by
  obtain ⟨f, p, c, rfl, he, hh⟩ := h
  exact ⟨f, p, c, rfl, he, fun w1 h1 M hv hk => hh w1 h1 M hv (by simp at hk; exact hk.2)⟩
def mpOk (K : List Int → Bool) (L : List Int) : Bool := valid L && K L
def mpF (K : List Int → Bool) (F : List Int → List Int) (L : List Int) : List Int := if mpOk K L then F L else []

end Go.Proofs.Ytfcmfjhlmjnjiaa
