/-
  A cell behind draws.
-/
import Derived.Test.YthafbdpeignccaaBase
namespace Go.Proofs.Ythafbdpeignccaa
open Go.RowKit
theorem drCell {w w' : World} {p : Addr} {v : Value} (h : Dr w w') (hc : w.cell? p = some v) : w'.cell? p = some v := by
  rw [(h.below w.heap.size).cell (p := p) (World.block_lt_of_cell? w p hc)]; exact hc
end Go.Proofs.Ythafbdpeignccaa
