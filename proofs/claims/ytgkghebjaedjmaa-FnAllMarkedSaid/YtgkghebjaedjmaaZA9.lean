/-
  Walks: the drawing of marked parts.
-/
import Derived.Test.YtgkghebjaedjmaaZA1
import Derived.Test.YtgkghebjaedjmaaZA2
import Derived.Test.YtgkghebjaedjmaaZA3
import Derived.Test.YtgkghebjaedjmaaZA4
import Derived.Test.YtgkghebjaedjmaaZA5
import Derived.Test.YtgkghebjaedjmaaZA6
import Derived.Test.YtgkghebjaedjmaaZA7
import Derived.Test.YtgkghebjaedjmaaZA8
import Derived.StillTailTactics
import Derived.RegionTactic
import Derived.Deep.RegionHeld3
namespace Go.Proofs.Ytgkghebjaedjmaa
open Go.RowKit NP
set_option maxRecDepth 100000
set_option linter.unusedVariables false
set_option linter.unusedSimpArgs false
theorem Chg.blk {g lo : Nat} {w w' : World} {k : Nat} {t : TypeId} {cs : Array Value} (h : Chg g lo w w') (hb : Blk w k t cs) (hk : k < lo) (hne : k ≠ g) : Blk w' k t cs := (h.block k hk hne).trans hb
theorem Chg.own {g lo : Nat} {w w' : World} {l hi : Nat} {e : TypeId} {v : Value} {vs : List Value} (h : Chg g lo w w') (ho : Own w l hi e v vs) (hl : g < l) (hh : hi ≤ lo) : Own w' l hi e v vs :=
  ho.keep h.size fun k hk => h.block k (by have := ho.lt k hk; omega) (by have := ho.base k hk; omega)
theorem Chg.cell {g lo : Nat} {w w' : World} {p : Addr} (h : Chg g lo w w') (hp : p.block < lo) (hne : p.block ≠ g) : w'.cell? p = w.cell? p := World.cell?_of_block (w := w) (h.block p.block hp hne)
theorem Chg.mono {g lo lo' : Nat} {w w' : World} (h : Chg g lo w w') (hl : lo' ≤ lo) : Chg g lo' w w' := ⟨h.os, h.tape, h.output, h.size, fun k hk hne => h.block k (by omega) hne⟩
theorem Own.offBlk {w : World} {lo hi k : Nat} {e t : TypeId} {v : Value} {vs : List Value} {cs : Array Value} (h : Own w lo hi e v vs) (hb : Blk w k t cs) (hne : e ≠ t) : ∀ g, v.ownBlock = some g → g ≠ k := by
  intro g hg
  rcases h.row.2 with ⟨h1, h2⟩ | ⟨g2, cap, cur, rfl, hb2, hg2, _⟩
  · subst h1; simp [Value.ownBlock] at hg
  · simp [Value.ownBlock] at hg
    subst hg
    rintro rfl
    have hb' : w.heap[g2]? = some (.cells cs t (0, 0)) := hb
    rw [hb'] at hg2
    injection hg2 with hg2
    injection hg2 with _ hg2 _
    exact hne hg2.symm
theorem fin_marked {wf : World} {B lo1 hi1 lo2 hi2 : Nat} {aP aM : Option Addr} {cP cM : Nat} {L : List Int} {T : List Bool} {vs : Array Value} (hP : Own wf lo1 hi1 3 (.slice aP L.length cP) (ints L)) (hM : Own wf lo2 hi2 4 (.slice aM T.length cM) (bls T)) (h1 : B < lo1) (h2 : B < lo2) :
    Own (wf.setRow B vs) B (wf.setRow B vs).heap.size 3 (.slice aP L.length cP) (ints L) ∧ Own (wf.setRow B vs) B (wf.setRow B vs).heap.size 4 (.slice aM T.length cM) (bls T) := by
  have e1 := hP.keep (w' := wf.setRow B vs) (by simp) (fun g hg => setRow_other _ _ _ _ (by have := hP.base g hg; omega))
  have e2 := hM.keep (w' := wf.setRow B vs) (by simp) (fun g hg => setRow_other _ _ _ _ (by have := hM.base g hg; omega))
  exact ⟨(e1.lower (by omega)).more, (e2.lower (by omega)).more⟩
end Go.Proofs.Ytgkghebjaedjmaa
