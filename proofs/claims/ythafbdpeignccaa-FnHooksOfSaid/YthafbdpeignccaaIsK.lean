/-
  A function value that tells of each diagram whether something holds of its parts.
-/
import Derived.Test.YthafbdpeignccaaW2
namespace Go.Proofs.Ythafbdpeignccaa
open Go.RowKit NP
set_option maxRecDepth 8000
/-- a function value that tells of each diagram of parts whether K holds of them, in every later world -/
def IsK (w : World) (v : Value) (K : List Int → Bool) : Prop := ∃ (f : Nat) (p c : Array Value), v = .func (.func f) p c ∧ (∀ (args : Array Value) (w : World), (callFunc f args).run Try.prog w = .ok (.enter f args) w) ∧ ∀ w1, Below w.heap.size w w1 → ∀ L, valid L = true →
  Calls Try.prog f (p.push (.agg (arr (pad L))) ++ c) w1 fun e w2 => e = .returned (.bool (K L)) ∧ Below w1.heap.size w1 w2
end Go.Proofs.Ythafbdpeignccaa
