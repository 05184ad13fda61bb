/-
  Words for memory: what is readable (Rd), what is the call's own (Own), append onto it. Arrays in blocks: a block known whole (Blk), a whole array stored and loaded, an element by a variable index. Slices whose elements are rows of so many whole numbers: a row of the call's own. Plain mathematics of parts: valid lists, their enumeration, prefixes. No Go text. Plain mathematics of times and corners. Plain mathematics of corners, diagonals, cells taken away and put. Plain mathematics of cells taken away and put. Plain mathematics: a cell taken away is put again, and a cell put is taken away. Plain mathematics of added parts. Plain mathematics of the promises of times and corners. Plain mathematics of united parts: sorted lists with the same numbers are the same; two sorted lists merged.
-/
import Derived.WalkKit
import Derived.WalkSmall
import Derived.Handy
import Derived.Laws.CopyOwn
import Derived.Maps.AppendAt
import Derived.Deep.Draws
import Derived.Laws.Rows
import Derived.Deep.MidRow
import Derived.KernelRfl
namespace Go.Proofs.Ythafbdpeignccaa
open Go.RowKit

def Rd (w : World) (B : Nat) (a : Option Addr) (vs : List Value) : Prop :=
  vs ≠ [] → ∃ b o, a = some ⟨b, o, none⟩ ∧ b < B ∧ ∀ k v, vs[k]? = some v → w.cell? ⟨b, o + k, none⟩ = some v

theorem ret_i64 {a b : Int} (h : a = b) : Ending.returned (.int .i64 a) = .returned (.int .i64 b) := by rw [h]
theorem ret_bool {a b : Bool} (h : a = b) : Ending.returned (.bool a) = .returned (.bool b) := by rw [h]
abbrev ints (L : List Int) : List Value := L.map (Value.int .i64)

theorem Rd.at_ {w : World} {B : Nat} {a : Option Addr} {L : List Int} (h : Rd w B a (ints L)) {k : Nat} (hk : k < L.length) :
    ∃ b o, a = some ⟨b, o, none⟩ ∧ b < B ∧ w.cell? ⟨b, o + k, none⟩ = some (.int .i64 L[k]) := by
  obtain ⟨b, o, h1, h2, h3⟩ := h (by intro e; simp at e; subst e; simp at hk)
  exact ⟨b, o, h1, h2, h3 k _ (by simp [hk])⟩

theorem Rd.below {w w' : World} {B : Nat} {a : Option Addr} {vs : List Value} (h : Rd w B a vs) (hb : Below B w w') : Rd w' B a vs := fun hne => by
  obtain ⟨b, o, h1, h2, h3⟩ := h hne
  exact ⟨b, o, h1, h2, fun k v hv => (hb.cell (p := ⟨b, o + k, none⟩) h2).trans (h3 k v hv)⟩

theorem Rd.more {w : World} {B B' : Nat} {a : Option Addr} {vs : List Value} (h : Rd w B a vs) (hB : B ≤ B') : Rd w B' a vs := fun hne => by
  obtain ⟨b, o, h1, h2, h3⟩ := h hne
  exact ⟨b, o, h1, by omega, h3⟩

/-- nothing has turned but draws -/
def Dr (w w' : World) : Prop := ∃ n, w' = w.drewN n
theorem Dr.refl (w : World) : Dr w w := ⟨0, rfl⟩
theorem Dr.n (w : World) (n : Nat) : Dr w (w.drewN n) := ⟨n, rfl⟩
theorem Dr.trans {a b c : World} (h : Dr a b) (k : Dr b c) : Dr a c := by
  obtain ⟨n, rfl⟩ := h
  obtain ⟨m, rfl⟩ := k
  exact ⟨n + m, by rw [World.drewN_drewN]⟩
theorem Dr.drewN {a b : World} (h : Dr a b) (n : Nat) : Dr a (b.drewN n) := h.trans ⟨n, rfl⟩
theorem Dr.below {w w' : World} (h : Dr w w') (B : Nat) : Below B w w' := by
  obtain ⟨n, rfl⟩ := h
  exact ⟨rfl, rfl, rfl, Nat.le_refl _, fun _ _ => rfl⟩
theorem Dr.size {w w' : World} (h : Dr w w') : w'.heap.size = w.heap.size := by
  obtain ⟨n, rfl⟩ := h
  rfl
theorem Rd.dr {w w' : World} {B : Nat} {a : Option Addr} {vs : List Value} (h : Rd w B a vs) (hb : Dr w w') : Rd w' B a vs := h.below (hb.below B)

/-- a row of the call's own in a block from lo up to hi -/
structure Own (w : World) (lo hi : Nat) (e : TypeId) (v : Value) (vs : List Value) : Prop where
  row : w.ownsRow lo e 1 v vs.length vs
  lt : ∀ g, v.ownBlock = some g → g < hi
  le : hi ≤ w.heap.size

section
variable {w w' : World} {lo hi : Nat} {e : TypeId} {v : Value} {vs : List Value}

theorem ownsRow_keep {n : Nat} (h : w.ownsRow lo e 1 v n vs) (hk : ∀ g, v.ownBlock = some g → w'.heap[g]? = w.heap[g]?) : w'.ownsRow lo e 1 v n vs := by
  refine ⟨h.1, ?_⟩
  rcases h.2 with hn | ⟨g, cap, cur, rfl, hb, hg, rest⟩
  · exact .inl hn
  · exact .inr ⟨g, cap, cur, rfl, hb, (hk g rfl).trans hg, rest⟩

theorem Own.keep (h : Own w lo hi e v vs) (hs : w.heap.size ≤ w'.heap.size) (hk : ∀ g, v.ownBlock = some g → w'.heap[g]? = w.heap[g]?) : Own w' lo hi e v vs :=
  ⟨ownsRow_keep h.row hk, h.lt, Nat.le_trans h.le hs⟩
theorem Own.below (h : Own w lo hi e v vs) (hb : Below hi w w') : Own w' lo hi e v vs :=
  h.keep hb.size fun g hg => hb.block g (h.lt g hg)
theorem Own.alloc (h : Own w lo hi e v vs) (o : Obj) : Own (w.alloc o) lo hi e v vs :=
  h.keep (by simp) fun g hg => Below.heap_alloc w o g (Nat.lt_of_lt_of_le (h.lt g hg) h.le)
theorem Own.drew (h : Own w lo hi e v vs) : Own w.drew lo hi e v vs := ⟨h.row, h.lt, h.le⟩
theorem Own.drewN (h : Own w lo hi e v vs) (n : Nat) : Own (w.drewN n) lo hi e v vs := ⟨h.row, h.lt, h.le⟩
theorem Own.more (h : Own w lo hi e v vs) : Own w lo w.heap.size e v vs := ⟨h.row, fun g hg => Nat.lt_of_lt_of_le (h.lt g hg) h.le, Nat.le_refl _⟩
theorem Own.form (h : Own w lo hi e v vs) : ∃ a c, v = .slice a vs.length c := by
  rcases h.row.2 with ⟨h1, h2⟩ | ⟨g, cap, cur, h1, _⟩
  · exact ⟨none, 0, by rw [h1, h2]⟩
  · exact ⟨_, _, h1⟩
theorem Own.rd {a : Option Addr} {n c : Nat} (h : Own w lo hi e (.slice a n c) vs) : Rd w hi a vs := fun hne => by
  rcases h.row.2 with ⟨h1, h2⟩ | ⟨g, cap, cur, hv, _, hg, _, _, _, ht⟩
  · exact absurd (List.eq_nil_of_length_eq_zero h2) hne
  · injection hv with ha hn hc
    subst ha
    refine ⟨g, 0, rfl, h.lt g rfl, fun k v hk => ?_⟩
    rw [cell_of_row w g (0 + k) cur e (0, 0) hg, Nat.zero_add]
    rw [← ht, List.getElem?_take] at hk
    split at hk
    · simpa using hk
    · cases hk
theorem Own.nil (w : World) (lo : Nat) (e : TypeId) : Own w lo w.heap.size e (.slice none 0 0) [] :=
  ⟨World.ownsRow_nil w lo e 1, fun g hg => by simp [Value.ownBlock] at hg, Nat.le_refl _⟩
theorem Own.lower {lo' : Nat} (h : Own w lo hi e v vs) (hl : lo' ≤ lo) : Own w lo' hi e v vs :=
  ⟨⟨h.row.1, h.row.2.imp id fun ⟨g, cap, cur, h1, h2, h3⟩ => ⟨g, cap, cur, h1, Nat.le_trans hl h2, h3⟩⟩, h.lt, h.le⟩
theorem Own.len {a : Option Addr} {n c : Nat} (h : Own w lo hi e (.slice a n c) vs) : n = vs.length := by
  obtain ⟨a', c', hv⟩ := h.form
  injection hv
end

theorem Own.at_ {w : World} {lo hi : Nat} {e : TypeId} {v : Value} {vs : List Value} (h : Own w lo hi e v vs) {k : Nat} (hk : k < vs.length) :
    ∃ g c, v = .slice (some ⟨g, 0, none⟩) vs.length c ∧ lo ≤ g ∧ g < hi ∧ w.cell? ⟨g, k, none⟩ = some vs[k] ∧ w.frozen? ⟨g, k, none⟩ = false := by
  rcases h.row.2 with ⟨h1, h2⟩ | ⟨g, cap, cur, rfl, hb, hg, _, _, _, ht⟩
  · omega
  · refine ⟨g, cap, rfl, hb, h.lt g rfl, ?_, frozen_of_row w g k cur e hg⟩
    rw [cell_of_row w g k cur e (0, 0) hg]
    have h3 : vs[k]? = some vs[k] := List.getElem?_eq_getElem hk
    have h4 : (cur.toList.take (vs.length * 1))[k]? = some vs[k] := by rw [ht]; exact h3
    rw [List.getElem?_take] at h4
    split at h4
    · simpa using h4
    · cases h4
theorem Own.spot {w : World} {lo hi : Nat} {e : TypeId} {a : Option Addr} {n c : Nat} {vs : List Value} (h : Own w lo hi e (.slice a n c) vs) {k : Nat} (hk : k < vs.length) :
    ∃ g u, a = some ⟨g, 0, none⟩ ∧ lo ≤ g ∧ g < hi ∧ w.cell? ⟨g, k, none⟩ = some u ∧ w.frozen? ⟨g, k, none⟩ = false := by
  obtain ⟨g, c', h1, h2, h3, h4, h5⟩ := h.at_ hk
  injection h1 with h1 _ _
  exact ⟨g, _, h1, h2, h3, h4, h5⟩
theorem Own.set {w : World} {lo hi : Nat} {e : TypeId} {g n c : Nat} {vs : List Value} (h : Own w lo hi e (.slice (some ⟨g, 0, none⟩) n c) vs) (k : Nat) (u : Value) : Own (w.setCell ⟨g, k, none⟩ u) lo hi e (.slice (some ⟨g, 0, none⟩) n c) (vs.set k u) := by
  have hn := h.len
  subst hn
  have h1 := h.row.stored k u
  refine ⟨?_, h.lt, ?_⟩
  · rw [List.length_set]; exact h1.1
  · have := h.le; simpa [World.setCell] using this
theorem Own.off {w : World} {lo hi : Nat} {e : TypeId} {v : Value} {vs : List Value} (h : Own w lo hi e v vs) {p : Addr} (hp : ∀ g, v.ownBlock = some g → g ≠ p.block) (u : Value) : Own (w.setCell p u) lo hi e v vs :=
  h.keep (by simp [World.setCell]) fun g hg => Below.heap_setCell w p u g (hp g hg)
theorem Own.grown {w w' : World} {lo hi : Nat} {e : TypeId} {v : Value} {vs : List Value} {row : Option Nat} (h : Own w lo hi e v vs) (hg : w.grownBy w' row) (hr : v.ownBlock = none ∨ v.ownBlock ≠ row) : Own w' lo hi e v vs :=
  h.keep hg.size fun g hgv => hg.block g (Nat.lt_of_lt_of_le (h.lt g hgv) h.le) (by
    rcases hr with hr | hr
    · rw [hr] at hgv; cases hgv
    · rw [← hgv]; exact hr)
theorem Own.dr {w w' : World} {lo hi : Nat} {e : TypeId} {v : Value} {vs : List Value} (h : Own w lo hi e v vs) (hd : Dr w w') : Own w' lo hi e v vs := h.below (hd.below hi)

/-- append to a row of the call's own, out of whatever can be read -/
theorem run_append_o {P : Program} (w : World) (lo hi : Nat) (t ty e : TypeId) (i : TypeInfo) (z : Value) (bytes : Nat) (ht : P.underlying t = some (.slice e)) (hi0 : P.info? e = some i) (hz : i.zero = some z)
    (hsize : i.size = 1) (hby : i.bytes = bytes) (hzs : z.cells.size = 1) {v : Value} {vs : List Value} (hown : Own w lo hi e v vs)
    {B : Nat} {A : Option Addr} {m c : Nat} {news : List Value} (hr : Rd w B A news) (hm : m = news.length) (h1 : ∀ u ∈ news, u.oneCell' = true)
    (h63 : vs.length + m ≤ maxLen) (hbytes : (vs.length + m) * bytes ≤ 140737488355328) (hlo : lo ≤ w.heap.size) :
    ∃ v' w', (Builtin.append_ #[t, t] ty #[v, .slice A m c]).run P w = .ok v' w' ∧ Own w' lo w'.heap.size e v' (vs ++ news) ∧ w.grownBy w' v.ownBlock ∧ (v'.ownBlock = v.ownBlock ∨ v'.ownBlock = some w.heap.size) := by
  subst hm
  by_cases hn : news = []
  · subst hn
    refine ⟨v, w, ?_, by simpa using hown.more, World.grownBy.refl w _, .inl rfl⟩
    rcases hown.row.2 with ⟨rfl, h0⟩ | ⟨g, cap, cur, rfl, _, _, hnc, _⟩
    · simp [Builtin.append_, run_underlying ht, sizeOf, typeInfo, hi0, Builtin.lenOf, Builtin.firstCells]
      cases A <;> simp [loadCells, loadCellsFrom]
    · simp [Builtin.append_, run_underlying ht, sizeOf, typeInfo, hi0, Builtin.lenOf, Builtin.firstCells, hnc, storeCells]
      cases A <;> simp [loadCells, loadCellsFrom, storeCells]
  · obtain ⟨b, o, rfl, hb, hc⟩ := hr hn
    have hcells : ∀ j u, news[j]? = some u → w.cell? ((⟨b, o, none⟩ : Addr).add j) = some u := by
      intro j u hu
      rw [Addr.add_lit]
      exact hc j u hu
    obtain ⟨v', w', hrun, h2, h3, _, h5⟩ := run_append_own_at (P := P) w lo t ty e i z 1 bytes ht hi0 hz hsize hby hzs (by omega) v _ vs hown.row ⟨b, o, none⟩ news.length c news (by simp) hcells h1 h63 hbytes hlo
    refine ⟨v', w', hrun, ⟨by simpa using h2, fun g hg => (h2.lt g hg).2, Nat.le_refl _⟩, h3, h5⟩

theorem wpList_append_o {P : Program} (w : World) {ops : Array Oper} {rest : List Oper} {o : Oper} {a : Act} {Q : Exit → Act → World → Prop} (hgd : o.guard = none) (s x : Operand) (t : TypeId)
    (ho : o.op = .call { callee := .builtin .append, args := #[s, x], argTypes := #[t, t] })
    (lo hi : Nat) (e : TypeId) (i : TypeInfo) (z : Value) (bytes : Nat) (ht : P.underlying t = some (.slice e)) (hi0 : P.info? e = some i) (hz : i.zero = some z)
    (hsize : i.size = 1) (hby : i.bytes = bytes) (hzs : z.cells.size = 1) (v : Value) (vs : List Value) (hs : a.eval s = v) (hown : Own w lo hi e v vs)
    (B : Nat) (A : Option Addr) (m c : Nat) (news : List Value) (hx : a.eval x = .slice A m c) (hr : Rd w B A news) (hm : m = news.length) (h1 : ∀ u ∈ news, u.oneCell' = true)
    (h63 : vs.length + m ≤ maxLen) (hbytes : (vs.length + m) * bytes ≤ 140737488355328) (hlo : lo ≤ w.heap.size)
    (h : ∀ v' w', Own w' lo w'.heap.size e v' (vs ++ news) → w.grownBy w' v.ownBlock → (v'.ownBlock = v.ownBlock ∨ v'.ownBlock = some w.heap.size) → wpList P ops Q rest (a.put o.dst v') w') : wpList P ops Q (o :: rest) a w :=
  wpList_plain hgd fun _ hK => by
    obtain ⟨v', w', hrun, h2, h3, h4⟩ := run_append_o (P := P) w lo hi t o.type e i z bytes ht hi0 hz hsize hby hzs hown hr hm h1 h63 hbytes hlo
    unfold Oper.wp execOp
    simp only [ho, resolve, invoke, builtin, Sem.run_bind, Sem.run_pure, Result.andThen_ok, List.map_toArray, List.map_cons, List.map_nil, hs, hx]
    rw [hrun]
    exact hK _ _ (h v' w' h2 h3 h4)

theorem step_append_o {P : Program} (w : World) {ops : Array Oper} {o : Oper} {a : Act} {K : Act → World → Prop} {Q : Exit → Act → World → Prop} {E : Prop} (hgd : o.guard = none) (s x : Operand) (t : TypeId)
    (ho : o.op = .call { callee := .builtin .append, args := #[s, x], argTypes := #[t, t] })
    (lo hi : Nat) (e : TypeId) (i : TypeInfo) (z : Value) (bytes : Nat) (ht : P.underlying t = some (.slice e)) (hi0 : P.info? e = some i) (hz : i.zero = some z)
    (hsize : i.size = 1) (hby : i.bytes = bytes) (hzs : z.cells.size = 1) (v : Value) (vs : List Value) (hs : a.eval s = v) (hown : Own w lo hi e v vs)
    (B : Nat) (A : Option Addr) (m c : Nat) (news : List Value) (hx : a.eval x = .slice A m c) (hr : Rd w B A news) (hm : m = news.length) (h1 : ∀ u ∈ news, u.oneCell' = true)
    (h63 : vs.length + m ≤ maxLen) (hbytes : (vs.length + m) * bytes ≤ 140737488355328) (hlo : lo ≤ w.heap.size)
    (h : ∀ v' w', Own w' lo w'.heap.size e v' (vs ++ news) → w.grownBy w' v.ownBlock → (v'.ownBlock = v.ownBlock ∨ v'.ownBlock = some w.heap.size) → K (a.put o.dst v') w') :
    if Region.wanted o (yielded ops a.tmps) = true then Oper.wp P o a w K Q else E := by
  have hw : Region.wanted o (yielded ops a.tmps) = true := by simp [Region.wanted, hgd]
  rw [if_pos hw]
  obtain ⟨v', w', hrun, h2, h3, h4⟩ := run_append_o (P := P) w lo hi t o.type e i z bytes ht hi0 hz hsize hby hzs hown hr hm h1 h63 hbytes hlo
  unfold Oper.wp execOp
  simp only [ho, resolve, invoke, builtin, Sem.run_bind, Sem.run_pure, Result.andThen_ok, List.map_toArray, List.map_cons, List.map_nil, hs, hx]
  rw [hrun]
  exact h v' w' h2 h3 h4

/-- one new cell is readable -/
theorem Rd.one (w : World) (u : Value) (t : TypeId) : Rd (w.alloc (.cells #[u] t)) (w.heap.size + 1) (some ⟨w.heap.size, 0, none⟩) [u] := fun _ => by
  refine ⟨w.heap.size, 0, rfl, by omega, fun k v hk => ?_⟩
  match k, hk with
  | 0, hk => simp at hk; subst hk; simp

/-- an empty row that has just been laid -/
theorem Own.empty (w : World) (e : TypeId) : Own (w.alloc (.cells #[] e)) w.heap.size (w.heap.size + 1) e (.slice (some ⟨w.heap.size, 0, none⟩) 0 0) [] :=
  ⟨⟨rfl, .inr ⟨w.heap.size, 0, #[], rfl, Nat.le_refl _, heap_alloc_new w _, Nat.le_refl _, Nat.zero_le _, rfl, rfl⟩⟩, fun g hg => by simp [Value.ownBlock] at hg; omega, by simp⟩
/-- one element appended, as the walk does it: laid into a block of its own first -/
theorem below_push {B : Nat} {w0 w w1 : World} {o : Obj} {row : Option Nat} (hb : Below B w0 w) (hB : B ≤ w0.heap.size) (hg : (w.alloc o).grownBy w1 row) (hr : ∀ g, row = some g → B ≤ g) : Below B w0 w1 := by
  have h1 := Nat.le_trans hB hb.size
  exact (hb.alloc h1 o).grown hg (by simp; omega) hr
theorem Own.base {w : World} {lo hi : Nat} {e : TypeId} {v : Value} {vs : List Value} (h : Own w lo hi e v vs) : ∀ g, v.ownBlock = some g → lo ≤ g := fun g hg => (h.row.lt g hg).1

theorem Own.above {w w' : World} {lo hi lox hix : Nat} {e ex : TypeId} {v vx : Value} {vs vxs : List Value} (h : Own w lo hi e v vs) (hx : Own w lox hix ex vx vxs) (hg : w.grownBy w' vx.ownBlock) (hd : hix ≤ lo) : Own w' lo hi e v vs :=
  h.keep hg.size fun g hgv => hg.block g (Nat.lt_of_lt_of_le (h.lt g hgv) h.le) (fun e => by
    have h1 := hx.lt g e.symm
    have h2 := h.base g hgv
    omega)
theorem Own.belowMark {w w' : World} {lo hi : Nat} {e : TypeId} {v : Value} {vs : List Value} (h : Own w lo hi e v vs) (hlo : lo ≤ w.heap.size) (hg : w.grownBy w' v.ownBlock) : Below lo w w' :=
  (Below.refl lo w).grown hg hlo h.base

/-- a slice of numbers that came in -/
def IsRow (k : IntKind) (w : World) (a : Option Addr) (len cap : Nat) (zs : List Int) : Prop :=
  (a = none ∧ len = 0 ∧ cap = 0 ∧ zs = []) ∨
  ∃ x, a = some x ∧ len ≤ cap ∧ cap ≤ maxLen ∧ zs.length = cap ∧ (∀ i, i < zs.length → w.cell? (x.add i) = some (.int k (zs.getD i 0))) ∧ ∀ n ∈ zs, (Lit.int k n).wf = true
theorem IsRow.rd {k : IntKind} {w : World} {a : Option Addr} {len cap : Nat} {zs : List Int} (h : IsRow k w a len cap zs) :
    ∃ L : List Int, L.length = len ∧ Rd w w.heap.size a (L.map (Value.int k)) ∧ (∀ n ∈ L, (Lit.int k n).wf = true) ∧ len ≤ maxLen := by
  rcases h with ⟨rfl, rfl, rfl, rfl⟩ | ⟨x, rfl, hl, hm, hz, hc, hw⟩
  · exact ⟨[], rfl, fun hne => absurd rfl hne, by simp, Nat.zero_le _⟩
  · refine ⟨zs.take len, by simp; omega, fun hne => ?_, fun n hn => hw n (List.mem_of_mem_take hn), by omega⟩
    have h0 : 0 < zs.length := by
      rcases Nat.eq_zero_or_pos zs.length with h0 | h0
      · have := List.eq_nil_of_length_eq_zero h0; subst this; simp at hne
      · exact h0
    obtain ⟨b, o, spot⟩ := x
    have hc0 := hc 0 h0
    have hspot : spot = none := by simpa [Addr.add] using World.cell?_spot hc0
    subst hspot
    have hlt := World.block_lt_of_cell? _ _ hc0
    refine ⟨b, o, rfl, by simpa [Addr.add] using hlt, fun j v hv => ?_⟩
    have hj : j < len ∧ j < zs.length := by
      have := (List.getElem?_eq_some_iff.1 hv).1
      simp at this
      omega
    have h1 := hc j hj.2
    rw [Addr.add_lit] at h1
    rw [h1]
    simp [hj.1, hj.2] at hv
    simp [List.getD, hj.2, hv]

theorem IsRow.lc {k : IntKind} {w : World} {a : Option Addr} {len cap : Nat} {zs : List Int} (h : IsRow k w a len cap zs) : len ≤ cap := by
  rcases h with ⟨rfl, rfl, rfl, rfl⟩ | ⟨x, rfl, hl, _⟩
  · exact Nat.le_refl _
  · exact hl
/-- a part of what can be read -/
theorem Rd.take {w : World} {B : Nat} {a : Option Addr} {vs : List Value} (h : Rd w B a vs) (k : Nat) : Rd w B a (vs.take k) := fun hne => by
  obtain ⟨b, o, h1, h2, h3⟩ := h (by rintro rfl; simp at hne)
  refine ⟨b, o, h1, h2, fun j v hv => h3 j v ?_⟩
  rw [List.getElem?_take] at hv
  split at hv
  · exact hv
  · cases hv
theorem Rd.dropAt {w : World} {B b o : Nat} {vs : List Value} (h : Rd w B (some ⟨b, o, none⟩) vs) (k : Nat) : Rd w B (some ⟨b, o + k, none⟩) (vs.drop k) := fun hne => by
  obtain ⟨b', o', h1, h2, h3⟩ := h (by rintro rfl; simp at hne)
  injection h1 with h1; injection h1 with e1 e2; subst e1 e2
  refine ⟨b, o + k, rfl, h2, fun j v hv => ?_⟩
  rw [List.getElem?_drop] at hv
  rw [Nat.add_assoc]
  exact h3 (k + j) v hv

/-- what stands from place q on, as Go cuts it -/
theorem Rd.cutAt {w : World} {B b cap : Nat} {vs : List Value} (h : Rd w B (some ⟨b, 0, none⟩) vs) (q : Nat) (hc : vs.length ≤ cap) : Rd w B (if cap = q then some ⟨b, 0, none⟩ else some ⟨b, q, none⟩) (vs.drop q) := by
  by_cases hq : cap = q
  · rw [List.drop_eq_nil_of_le (by omega)]
    exact fun hne => absurd rfl hne
  · rw [if_neg hq]
    have := h.dropAt q
    rwa [Nat.zero_add] at this
theorem Rd.grown {w w' : World} {B : Nat} {a : Option Addr} {vs : List Value} {row : Option Nat} (h : Rd w B a vs) (hg : w.grownBy w' row) (hB : B ≤ w.heap.size) (hr : ∀ g, row = some g → ∀ b o, a = some ⟨b, o, none⟩ → b ≠ g) : Rd w' B a vs := fun hne => by
  obtain ⟨b, o, h1, h2, h3⟩ := h hne
  exact ⟨b, o, h1, h2, fun k v hv => (World.cell?_of_block (hg.block b (by omega) (fun e => hr b e.symm b o h1 rfl))).trans (h3 k v hv)⟩

theorem step_append_b {P : Program} (w : World) {ops : Array Oper} {o : Oper} {a : Act} {K : Act → World → Prop} {Q : Exit → Act → World → Prop} {E : Prop} (hgd : o.guard = none) (s x : Operand) (t : TypeId)
    (ho : o.op = .call { callee := .builtin .append, args := #[s, x], argTypes := #[t, t] })
    (lo hi : Nat) (e : TypeId) (i : TypeInfo) (z : Value) (bytes : Nat) (ht : P.underlying t = some (.slice e)) (hi0 : P.info? e = some i) (hz : i.zero = some z)
    (hsize : i.size = 1) (hby : i.bytes = bytes) (hzs : z.cells.size = 1) (v : Value) (vs : List Value) (hs : a.eval s = v) (w0 : World) (hb : Below lo w0 w) (hlo0 : lo ≤ w0.heap.size) (hown : Own w lo hi e v vs)
    (B : Nat) (A : Option Addr) (m c : Nat) (news : List Value) (hx : a.eval x = .slice A m c) (hr : Rd w B A news) (hm : m = news.length) (h1 : ∀ u ∈ news, u.oneCell' = true)
    (h63 : vs.length + m ≤ 4194304) (hby2 : bytes ≤ 64)
    (h : ∀ v' w', Own w' lo w'.heap.size e v' (vs ++ news) → Below lo w0 w' → w.grownBy w' v.ownBlock → K (a.put o.dst v') w') :
    if Region.wanted o (yielded ops a.tmps) = true then Oper.wp P o a w K Q else E :=
  step_append_o w hgd s x t ho lo hi e i z bytes ht hi0 hz hsize hby hzs v vs hs hown B A m c news hx hr hm h1 (by unfold maxLen; omega)
    (Nat.le_trans (Nat.mul_le_mul h63 hby2) (by omega)) (Nat.le_trans hlo0 hb.size)
    fun v' w' h2 h3 _ => h v' w' h2 (hb.grown h3 (Nat.le_trans hlo0 hb.size) hown.base) h3
theorem own_empty1 {lo : Nat} (w : World) (e : TypeId) (hlo : lo ≤ w.heap.size) : Own (w.alloc (.cells #[] e)) lo (w.heap.size + 1) e (.slice (some ⟨w.heap.size, 0, none⟩) 0 0) [] := (Own.empty w e).lower hlo
theorem own_empty2 {lo : Nat} (w : World) (e : TypeId) (o : Obj) (hlo : lo ≤ w.heap.size) : Own ((w.alloc o).alloc (.cells #[] e)) lo (w.heap.size + 2) e (.slice (some ⟨w.heap.size + 1, 0, none⟩) 0 0) [] := by
  have h := (Own.empty (w.alloc o) e).lower (lo' := lo) (by simp; omega)
  simpa using h
theorem len_take {M : List Int} {q : Nat} (h : q ≤ M.length) : q = (ints (M.take q)).length := by simp; omega
theorem len_drop {M : List Int} {q : Nat} : M.length - q = (ints (M.drop q)).length := by simp
theorem ints_one (D : List Int) : ∀ v ∈ ints D, v.oneCell' = true := by
  intro v hv
  simp at hv
  obtain ⟨x, -, rfl⟩ := hv
  rfl

theorem Rd.alloc {w : World} {B : Nat} {a : Option Addr} {vs : List Value} (h : Rd w B a vs) (hB : B ≤ w.heap.size) (o : Obj) : Rd (w.alloc o) B a vs := h.below ((Below.refl B w).alloc hB o)
theorem Rd.drew {w : World} {B : Nat} {a : Option Addr} {vs : List Value} (h : Rd w B a vs) : Rd w.drew B a vs := h
theorem rd_one2 (w : World) (o : Obj) (u : Value) (t : TypeId) : Rd ((w.alloc o).alloc (.cells #[u] t)) (w.heap.size + 2) (some ⟨w.heap.size + 1, 0, none⟩) [u] := by
  have h := Rd.one (w.alloc o) u t
  simpa using h
theorem rd_one3 (w : World) (o : Obj) (u : Value) (t : TypeId) : Rd ((w.alloc (.cells #[u] t)).alloc o) (w.heap.size + 1) (some ⟨w.heap.size, 0, none⟩) [u] := (Rd.one w u t).alloc (by simp) o
theorem Rd.apart {w w' : World} {B x y n c : Nat} {vs : List Value} (h : Rd w B (some ⟨x, 0, none⟩) vs) (hg : w.grownBy w' (Value.slice (some ⟨y, 0, none⟩) n c).ownBlock) (hB : B ≤ w.heap.size) (hne : x ≠ y) : Rd w' B (some ⟨x, 0, none⟩) vs :=
  h.grown hg hB fun g hgg b o e => by simp [Value.ownBlock] at hgg; injection e with e; injection e with e; omega

theorem Own.formN {w : World} {lo hi : Nat} {e : TypeId} {v : Value} {vs : List Value} (h : Own w lo hi e v vs) (h0 : 0 < vs.length) : ∃ g c, v = .slice (some ⟨g, 0, none⟩) vs.length c ∧ vs.length ≤ c := by
  rcases h.row.2 with ⟨h1, h2⟩ | ⟨g, cap, cur, h1, _, _, h3, _⟩
  · omega
  · exact ⟨g, cap, h1, h3⟩

theorem Own.read {w : World} {lo hi : Nat} {e : TypeId} {a : Option Addr} {n c : Nat} {vs : List Value} (h : Own w lo hi e (.slice a n c) vs) {k : Nat} (hk : k < vs.length) : ∃ g, a = some ⟨g, 0, none⟩ ∧ w.cell? ⟨g, k, none⟩ = some vs[k] := by
  obtain ⟨g, c', h1, _, _, h4, _⟩ := h.at_ hk
  injection h1 with h1 _ _
  exact ⟨g, h1, h4⟩
end Go.Proofs.Ythafbdpeignccaa
namespace Go.Proofs.Ythafbdpeignccaa
open Go.RowKit

/-- block g holds just the cells cs of type t -/
def Blk (w : World) (g : Nat) (t : TypeId) (cs : Array Value) : Prop := w.heap[g]? = some (.cells cs t (0, 0))

section
variable {w w' : World} {g : Nat} {t : TypeId} {cs : Array Value}
theorem Blk.lt (h : Blk w g t cs) : g < w.heap.size := (Array.getElem?_eq_some_iff.1 h).1
theorem Blk.cell (h : Blk w g t cs) (i : Nat) : w.cell? ⟨g, i, none⟩ = cs[i]? := cell_of_row w g i cs t (0, 0) h
theorem Blk.free (h : Blk w g t cs) (i : Nat) : w.frozen? ⟨g, i, none⟩ = false := frozen_of_row w g i cs t h
theorem Blk.new (w : World) (t : TypeId) (cs : Array Value) : Blk (w.alloc (.cells cs t)) w.heap.size t cs := heap_alloc_new w _
theorem Blk.alloc (h : Blk w g t cs) (o : Obj) : Blk (w.alloc o) g t cs := (Below.heap_alloc w o g h.lt).trans h
theorem Blk.set (h : Blk w g t cs) (i : Nat) (u : Value) : Blk (w.setCell ⟨g, i, none⟩ u) g t (cs.setIfInBounds i u) := heap_setCell_same w g i cs t u h
theorem Blk.off (h : Blk w g t cs) {p : Addr} (hp : g ≠ p.block) (u : Value) : Blk (w.setCell p u) g t cs := (Below.heap_setCell w p u g hp).trans h
theorem Blk.below {B : Nat} (h : Blk w g t cs) (hb : Below B w w') (hg : g < B) : Blk w' g t cs := (hb.block g hg).trans h
theorem Blk.drewN (h : Blk w g t cs) (n : Nat) : Blk (w.drewN n) g t cs := h
theorem Blk.drew (h : Blk w g t cs) : Blk w.drew g t cs := h
theorem Blk.grown {row : Option Nat} (h : Blk w g t cs) (hb : w.grownBy w' row) (hg : some g ≠ row) : Blk w' g t cs := (hb.block g h.lt hg).trans h
theorem Blk.row {vs : Array Value} (h : Blk w g t cs) : Blk (w.setRow g vs) g t vs := setRow_heap w g cs vs t (0, 0) h
theorem Blk.rowOff {g' : Nat} {vs : Array Value} (h : Blk w g t cs) (hg : g ≠ g') : Blk (w.setRow g' vs) g t cs := (setRow_other w g' g vs hg).trans h
theorem below_setRow' {B : Nat} {a : World} (h : Below B a w) (hg : B ≤ g) (vs : Array Value) : Below B a (w.setRow g vs) := below_setRow h hg vs
end

section
variable {P : Program}
theorem run_storeVar_row (w : World) (g : Nat) (t ty : TypeId) (cs vs : Array Value) (hg : Blk w g t cs) (hi : (P.info? ty).map (·.size) = some vs.size) (hs : vs.size = cs.size) (h1 : ∀ v ∈ vs.toList, v.oneCell' = true) :
    (storeVar ty ⟨g, 0, none⟩ (.agg vs)).run P w = .ok () (w.setRow g vs) := by
  cases hq : P.info? ty with
  | none => simp [hq] at hi
  | some i =>
    have hz : i.size = vs.size := by simpa [hq] using hi
    have hst := run_storeCells_at P g 0 t vs.toList 0 cs w hg (by simp; omega) h1
    simp only [Nat.add_zero, List.take_zero, List.nil_append, Nat.zero_add, Array.length_toList] at hst
    rw [List.drop_eq_nil_of_le (by simp; omega), List.append_nil, Array.toArray_toList] at hst
    simp [storeVar, Sem.run_bind, sizeOf, typeInfo, hq, hz, Value.cells, hst]

theorem wpList_store_row {ops : Array Oper} {rest : List Oper} {o : Oper} {a : Act} {w : World} {Q : Exit → Act → World → Prop} (hgd : o.guard = none) (ty : TypeId) (x v : Operand) (ho : o.op = .store ty x v)
    (g : Nat) (hx : a.eval x = .pointer (some ⟨g, 0, none⟩)) (vs : Array Value) (hv : a.eval v = .agg vs) (t : TypeId) (cs : Array Value) (hg : Blk w g t cs)
    (hi : (P.info? ty).map (·.size) = some vs.size) (hs : vs.size = cs.size) (h1 : ∀ v ∈ vs.toList, v.oneCell' = true)
    (h : wpList P ops Q rest (a.put o.dst undef) (w.setRow g vs)) : wpList P ops Q (o :: rest) a w :=
  wpList_plain hgd fun _ hK => by
    unfold Oper.wp execOp
    simp only [ho, hx, hv, Instr.storeAt, Instr.sureAddr, Sem.run_bind, Sem.run_pure, Result.andThen_ok, run_storeVar_row w g t ty cs vs hg hi hs h1]
    exact hK _ _ h

theorem run_index_row (T e : TypeId) (d : TypeDesc) (n : Nat) (hT : P.underlying T = some (.array n e)) (he : P.underlying e = some d) (hd : (match d with | .struct _ | .array _ _ => true | _ => false) = false) (hc : (P.info? e).map (·.size) = some 1)
    (cs : Array Value) (k : Nat) (v : Value) (hk : k < n) (hv : cs[k]? = some v) (kd : IntKind) (w : World) : (Instr.index T (.agg cs) (.int kd k)).run P w = .ok v w := by
  cases hq : P.info? e with
  | none => simp [hq] at hc
  | some i =>
    have hz : i.size = 1 := by simpa [hq] using hc
    have hagg : ∀ w : World, (isAgg e).run P w = .ok false w := by
      intro w
      unfold isAgg
      rw [Sem.run_bind, run_underlying he w]
      cases d <;> simp_all
    simp [Instr.index, asIntOf, Sem.run_bind, run_underlying hT, sizeOf, typeInfo, hq, hz, part, hagg, hv]
    intro hnk
    omega
theorem results_cell_tmp {fn : Func} {p q : Tmp} {ty : TypeId} (h : fn.results = #[.cell p ty, .tmp q]) (tmps : Array Value) (w : World) (g : Nat) (t : TypeId) (cs : Array Value) (fr : Nat × Nat) (d : TypeDesc)
    (hp : tmps.getD p undef = .pointer (some ⟨g, 0, none⟩)) (hg : w.heap[g]? = some (.cells cs t fr))
    (hu : P.underlying ty = some d) (hd : (match d with | .struct _ | .array _ _ => true | _ => false) = true) (hi : (P.info? ty).map (·.size) = some cs.size) :
    (results fn tmps).run P w = .ok (.tuple #[.agg cs, tmps.getD q undef]) w := by
  have hp' : tmps[p]?.getD undef = .pointer (some ⟨g, 0, none⟩) := by simpa using hp
  simp [results, h, hp', asAddr, run_loadVar_row w g t ty cs fr d hg hu hd hi]
end

/-- a list of numbers as an array's cells -/
def arr (D : List Int) : Array Value := (ints D).toArray
theorem arr_size (D : List Int) : (arr D).size = D.length := by simp [arr]
theorem arr_get (D : List Int) (k : Nat) (h : k < D.length) : (arr D)[k]? = some (.int .i64 D[k]) := by simp [arr, h]
theorem arr_one (D : List Int) : ∀ v ∈ (arr D).toList, v.oneCell' = true := by
  intro v hv
  simp [arr] at hv
  obtain ⟨x, -, rfl⟩ := hv
  rfl
theorem arr_set (D : List Int) (k : Nat) (x : Int) : (arr D).setIfInBounds k (.int .i64 x) = arr (D.set k x) := by
  simp [arr, ints, List.map_set]
end Go.Proofs.Ythafbdpeignccaa
namespace Go.Proofs.Ythafbdpeignccaa
open Go.RowKit
theorem Blk.own {w : World} {g lo : Nat} {e : TypeId} {vs : List Value} (h : Blk w g e vs.toArray) (hlo : lo ≤ g) (hm : vs.length ≤ maxLen) : Own w lo w.heap.size e (.slice (some ⟨g, 0, none⟩) vs.length vs.length) vs :=
  ⟨⟨by simp, .inr ⟨g, vs.length, vs.toArray, rfl, hlo, h, Nat.le_refl _, hm, by simp, by simp⟩⟩, fun q hq => by have := h.lt; simp [Value.ownBlock] at hq; omega, Nat.le_refl _⟩

/-- make([]int, n): a block of n zeros: an equation for every world -/
theorem run_make_ints {P : Program} (t e : TypeId) (i : TypeInfo) (h1 : P.underlying t = some (.slice e)) (h2 : P.info? e = some i) (h3 : i.zero = some (.int .i64 0)) (h4 : i.size = 1) (h5 : i.bytes = 8)
    (n : Nat) (hn : n ≤ 4194304) (w : World) :
    (Instr.makeSlice t (.int .i64 n) (.int .i64 n)).run P w = .ok (.slice (some ⟨w.heap.size, 0, none⟩) n n) (w.alloc (.cells (arr (List.replicate n 0)) e)) := by
  have hrun := run_make (P := P) w t e i (.int .i64 0) h1 h2 h3 .i64 .i64 n n (by omega) (by omega) (by rw [h5]; omega) (by omega)
  rw [h4] at hrun
  simp only [Int.toNat_natCast, Nat.mul_one] at hrun
  rw [hrun]
  congr 3
  apply Array.toList_inj.1
  simp [Value.cells, toList_madeCells_one, arr]
end Go.Proofs.Ythafbdpeignccaa
namespace Go.Proofs.Ythafbdpeignccaa
open Go.RowKit
set_option linter.unusedVariables false
section flat
variable {n : Nat} {R : List (List Int)}
theorem flatN_len (h : ∀ L ∈ R, L.length = n) : R.flatten.length = R.length * n := by
  induction R with
  | nil => simp
  | cons x S ih => rw [List.flatten_cons, List.length_append, ih (fun L hL => h L (List.mem_cons_of_mem _ hL)), h x (List.mem_cons_self ..), List.length_cons, Nat.add_mul]; omega
theorem flatN_get (h : ∀ L ∈ R, L.length = n) : ∀ {i k : Nat} (hi : i < R.length), k < n → R.flatten[i * n + k]? = R[i][k]? := by
  induction R with
  | nil => intro i k hi; simp at hi
  | cons x S ih =>
    intro i k hi hk
    have hx := h x (List.mem_cons_self ..)
    cases i with
    | zero => rw [Nat.zero_mul, Nat.zero_add, List.flatten_cons, List.getElem?_append_left (by omega)]; rfl
    | succ i =>
      rw [List.flatten_cons, List.getElem?_append_right (by rw [Nat.add_mul]; omega), show (i + 1) * n + k - x.length = i * n + k from by rw [Nat.add_mul]; omega, ih (fun L hL => h L (List.mem_cons_of_mem _ hL)) (by simpa using hi) hk]
      rfl
theorem flatN_set (h : ∀ L ∈ R, L.length = n) : ∀ {i k : Nat} (hi : i < R.length), k < n → ∀ v : Int, R.flatten.set (i * n + k) v = (R.set i (R[i].set k v)).flatten := by
  induction R with
  | nil => intro i k hi; simp at hi
  | cons x S ih =>
    intro i k hi hk v
    have hx := h x (List.mem_cons_self ..)
    cases i with
    | zero => simp only [Nat.zero_mul, Nat.zero_add, List.flatten_cons, List.getElem_cons_zero, List.set_cons_zero]; rw [List.set_append_left _ _ (by omega)]
    | succ i =>
      simp only [List.flatten_cons, List.getElem_cons_succ, List.set_cons_succ]
      rw [List.set_append_right _ _ (by rw [Nat.add_mul]; omega), show (i + 1) * n + k - x.length = i * n + k from by rw [Nat.add_mul]; omega, ih (fun L hL => h L (List.mem_cons_of_mem _ hL)) (by simpa using hi) hk]
end flat
structure OwnW (w : World) (lo hi : Nat) (e : TypeId) (n : Nat) (v : Value) (R : List (List Int)) : Prop where
  row : w.ownsRow lo e n v R.length (ints R.flatten)
  each : ∀ L ∈ R, L.length = n
  lt : ∀ g, v.ownBlock = some g → g < hi
  le : hi ≤ w.heap.size
section
variable {w w' : World} {lo hi : Nat} {e : TypeId} {n : Nat} {v : Value} {R : List (List Int)}
theorem ownsRowN_keep {m size : Nat} {vs : List Value} (h : w.ownsRow lo e size v m vs) (hk : ∀ g, v.ownBlock = some g → w'.heap[g]? = w.heap[g]?) : w'.ownsRow lo e size v m vs := by
  refine ⟨h.1, ?_⟩
  rcases h.2 with hn | ⟨g, cap, cur, rfl, hb, hg, rest⟩
  · exact .inl hn
  · exact .inr ⟨g, cap, cur, rfl, hb, (hk g rfl).trans hg, rest⟩
theorem OwnW.keep (h : OwnW w lo hi e n v R) (hs : w.heap.size ≤ w'.heap.size) (hk : ∀ g, v.ownBlock = some g → w'.heap[g]? = w.heap[g]?) : OwnW w' lo hi e n v R :=
  ⟨ownsRowN_keep h.row hk, h.each, h.lt, Nat.le_trans h.le hs⟩
theorem OwnW.below (h : OwnW w lo hi e n v R) (hb : Below hi w w') : OwnW w' lo hi e n v R := h.keep hb.size fun g hg => hb.block g (h.lt g hg)
theorem OwnW.alloc (h : OwnW w lo hi e n v R) (o : Obj) : OwnW (w.alloc o) lo hi e n v R :=
  h.keep (by simp) fun g hg => Below.heap_alloc w o g (Nat.lt_of_lt_of_le (h.lt g hg) h.le)
theorem OwnW.more (h : OwnW w lo hi e n v R) : OwnW w lo w.heap.size e n v R := ⟨h.row, h.each, fun g hg => Nat.lt_of_lt_of_le (h.lt g hg) h.le, Nat.le_refl _⟩
theorem OwnW.lower {lo' : Nat} (h : OwnW w lo hi e n v R) (hl : lo' ≤ lo) : OwnW w lo' hi e n v R :=
  ⟨⟨h.row.1, h.row.2.imp id fun ⟨g, cap, cur, h1, h2, h3⟩ => ⟨g, cap, cur, h1, Nat.le_trans hl h2, h3⟩⟩, h.each, h.lt, h.le⟩
theorem OwnW.dr (h : OwnW w lo hi e n v R) (hd : Dr w w') : OwnW w' lo hi e n v R := h.below (hd.below hi)
theorem OwnW.form (h : OwnW w lo hi e n v R) : ∃ a c, v = .slice a R.length c := by
  rcases h.row.2 with ⟨h1, h2⟩ | ⟨g, cap, cur, h1, _⟩
  · exact ⟨none, 0, by rw [h1, h2]⟩
  · exact ⟨_, _, h1⟩
theorem OwnW.nil (w : World) (lo : Nat) (e : TypeId) (n : Nat) : OwnW w lo w.heap.size e n (.slice none 0 0) [] :=
  ⟨World.ownsRow_nil w lo e n, fun L hL => by simp at hL, fun g hg => by simp [Value.ownBlock] at hg, Nat.le_refl _⟩
theorem OwnW.at_ (h : OwnW w lo hi e n v R) {k : Nat} (hk : k < R.length) :
    ∃ g c, v = .slice (some ⟨g, 0, none⟩) R.length c ∧ lo ≤ g ∧ g < hi ∧ (∀ j x, j < n → R[k][j]? = some x → w.cell? ⟨g, k * n + j, none⟩ = some (.int .i64 x)) ∧ ∀ i, w.frozen? ⟨g, i, none⟩ = false := by
  rcases h.row.2 with ⟨h1, h2⟩ | ⟨g, cap, cur, rfl, hb, hg, _, _, _, ht⟩
  · omega
  · refine ⟨g, cap, rfl, hb, h.lt g rfl, fun j x hj hx => ?_, fun i => frozen_of_row w g i cur e hg⟩
    rw [cell_of_row w g (k * n + j) cur e (0, 0) hg]
    have h3 : R.flatten[k * n + j]? = some x := by rw [flatN_get h.each hk hj]; exact hx
    have h4 : (ints R.flatten)[k * n + j]? = some (.int .i64 x) := by unfold ints; rw [List.getElem?_map, h3]; rfl
    rw [← ht, List.getElem?_take] at h4
    split at h4
    · simpa using h4
    · cases h4
theorem OwnW.range (h : OwnW w lo hi e n v R) {k : Nat} (hk : k < R.length) :
    ∃ g c, v = .slice (some ⟨g, 0, none⟩) R.length c ∧ lo ≤ g ∧ g < hi ∧ (∀ o (M : List Int), o + M.length ≤ n → (∀ j, j < M.length → M[j]? = R[k][o + j]?) → w.rangeAt g (k * n + o) (ints M)) ∧ (∀ i, w.frozen? ⟨g, i, none⟩ = false) := by
  obtain ⟨g, c, h1, h2, h3, h4, h5⟩ := h.at_ hk
  refine ⟨g, c, h1, h2, h3, fun o M hM hj i u hu => ?_, h5⟩
  have hi' : i < M.length := by have := (List.getElem?_eq_some_iff.1 hu).1; simpa using this
  rw [Nat.add_assoc]
  have e1 := hj i hi'
  rw [List.getElem?_eq_getElem hi'] at e1
  rw [h4 (o + i) M[i] (by omega) e1.symm]
  simp only [ints, List.getElem?_map, List.getElem?_eq_getElem hi', Option.map_some, Option.some.injEq] at hu
  rw [← hu]
theorem OwnW.set {g c : Nat} {m : Nat} (h : OwnW w lo hi e n (.slice (some ⟨g, 0, none⟩) m c) R) {k j : Nat} (hk : k < R.length) (hj : j < n) (x : Int) : OwnW (w.setCell ⟨g, k * n + j, none⟩ (.int .i64 x)) lo hi e n (.slice (some ⟨g, 0, none⟩) m c) (R.set k (R[k].set j x)) := by
  obtain ⟨a', c', hv⟩ := h.form
  injection hv with _ hm _
  subst hm
  have h1 := h.row.stored (k * n + j) (.int .i64 x)
  refine ⟨?_, fun L hL => ?_, h.lt, ?_⟩
  · rw [List.length_set, ← flatN_set h.each hk hj]
    have e : ints (R.flatten.set (k * n + j) x) = (ints R.flatten).set (k * n + j) (.int .i64 x) := by simp [ints, List.map_set]
    rw [e]; exact h1.1
  · rcases List.mem_or_eq_of_mem_set hL with h2 | h2
    · exact h.each L h2
    · rw [h2, List.length_set]; exact h.each _ (List.getElem_mem hk)
  · have := h.le; simpa [World.setCell] using this
theorem OwnW.grown {row : Option Nat} (h : OwnW w lo hi e n v R) (hg : w.grownBy w' row) (hr : v.ownBlock = none ∨ v.ownBlock ≠ row) : OwnW w' lo hi e n v R :=
  h.keep hg.size fun g hgv => hg.block g (Nat.lt_of_lt_of_le (h.lt g hgv) h.le) (by
    rcases hr with hr | hr
    · rw [hr] at hgv; cases hgv
    · rw [← hgv]; exact hr)
end
/-- one row more -/
theorem wpList_append_w {P : Program} {w : World} {ops : Array Oper} {rest : List Oper} {o : Oper} {a : Act} {Q : Exit → Act → World → Prop} (hgd : o.guard = none) (s x : Operand) (t : TypeId)
    (ho : o.op = .call { callee := .builtin .append, args := #[s, x], argTypes := #[t, t] })
    (lo hi : Nat) (e : TypeId) (i : TypeInfo) (z : Value) (n bytes : Nat) (ht : P.underlying t = some (.slice e)) (hi0 : P.info? e = some i) (hz : i.zero = some z)
    (hsize : i.size = n) (hby : i.bytes = bytes) (hzs : z.cells.size = n) (hn : 0 < n)
    (v : Value) (R : List (List Int)) (hs : a.eval s = v) (hown : OwnW w lo hi e n v R) (hlo : lo ≤ w.heap.size)
    (g c : Nat) (L : List Int) (hx : a.eval x = .slice (some ⟨g, 0, none⟩) 1 c) (hL : L.length = n) (hc : w.rangeAt g 0 (ints L))
    (hl : R.length ≤ 100000) (hb : bytes ≤ 100000)
    (h : ∀ v' w', OwnW w' lo w'.heap.size e n v' (R ++ [L]) → w.grownBy w' v.ownBlock → (v'.ownBlock = v.ownBlock ∨ v'.ownBlock = some w.heap.size) → wpList P ops Q rest (a.put o.dst v') w') : wpList P ops Q (o :: rest) a w :=
  wpList_plain hgd fun _ hK => by
    obtain ⟨v', w', hrun, h2, h3, _, h5⟩ := run_append_own_at (P := P) w lo t o.type e i z n bytes ht hi0 hz hsize hby hzs hn v _ (ints R.flatten) hown.row ⟨g, 0, none⟩ 1 c (ints L) (by simp [hL]) (fun j u hu => by rw [Addr.add_mid]; exact hc j u hu) (fun u hu => by simp [ints] at hu; obtain ⟨y, _, rfl⟩ := hu; rfl) (by unfold maxLen; omega) (by
      have : (R.length + 1) * bytes ≤ 100001 * 100000 := Nat.mul_le_mul (by omega) hb
      omega) hlo
    have hR : ints R.flatten ++ ints L = ints (R ++ [L]).flatten := by simp [ints]
    rw [hR] at h2
    unfold Oper.wp execOp
    simp only [ho, resolve, invoke, builtin, Sem.run_bind, Sem.run_pure, Result.andThen_ok, List.map_toArray, List.map_cons, List.map_nil, hs, hx]
    rw [hrun]
    refine hK _ _ (h v' w' ⟨by rw [List.length_append]; exact h2, fun M hM => ?_, fun g' hg' => (h2.lt g' hg').2, Nat.le_refl _⟩ h3 h5)
    rcases List.mem_append.1 hM with hM | hM
    · exact hown.each M hM
    · rw [List.mem_singleton.1 hM]; exact hL
/-- one row that has just been laid -/
theorem OwnW.one (w : World) (e : TypeId) (n : Nat) (L : List Int) (hL : L.length = n) : OwnW (w.alloc (.cells (arr L) e)) w.heap.size (w.heap.size + 1) e n (.slice (some ⟨w.heap.size, 0, none⟩) 1 1) [L] :=
  ⟨⟨by simp [hL], .inr ⟨w.heap.size, 1, _, rfl, Nat.le_refl _, heap_alloc_new w _, Nat.le_refl _, by unfold maxLen; omega, by simp [arr, ints, hL], by simp [arr, ints, ← hL]; exact List.take_of_length_le (by simp)⟩⟩, fun M hM => by rw [List.mem_singleton.1 hM]; exact hL, fun g hg => by simp [Value.ownBlock] at hg; omega, by simp⟩
theorem OwnW.base {w : World} {lo hi : Nat} {e : TypeId} {n : Nat} {v : Value} {R : List (List Int)} (h : OwnW w lo hi e n v R) : ∀ g, v.ownBlock = some g → lo ≤ g := fun g hg => (h.row.lt g hg).1
end Go.Proofs.Ythafbdpeignccaa
namespace Go.Proofs.Ythafbdpeignccaa
namespace NP
/-- parts below most with at most left together -/
def vb : Int → Int → List Int → Bool
  | _, _, [] => true
  | m, l, x :: r => decide (1 ≤ x) && decide (x ≤ l) && decide (x ≤ m) && vb x (l - x) r
def valid (L : List Int) : Bool := vb 16 16 L

/-- all parts: greatest at most m, together at most l; f: fuel -/
def enum : Nat → Nat → Nat → List (List Nat)
  | 0, _, _ => [[]]
  | f + 1, m, l => [] :: ((List.range (min m l)).flatMap fun k => (enum f (k + 1) (l - (k + 1))).map ((k + 1) :: ·))

theorem mem_enum : ∀ (f : Nat) (m l : Nat) (L : List Int), l ≤ f → vb m l L = true → ∃ N ∈ enum f m l, L = N.map Int.ofNat := by
  intro f
  induction f with
  | zero =>
    intro m l L hl h
    cases L with
    | nil => exact ⟨[], by simp [enum], rfl⟩
    | cons x r => simp [vb] at h; omega
  | succ f ih =>
    intro m l L hl h
    cases L with
    | nil => exact ⟨[], by simp [enum], rfl⟩
    | cons x r =>
      simp only [vb, Bool.and_eq_true, decide_eq_true_eq] at h
      obtain ⟨⟨⟨h1, h2⟩, h3⟩, h4⟩ := h
      obtain ⟨n, rfl⟩ := Int.eq_ofNat_of_zero_le (show 0 ≤ x by omega)
      have e : ((l : Int) - (n : Int)) = ((l - n : Nat) : Int) := by omega
      rw [e] at h4
      obtain ⟨N, hN, hr⟩ := ih n (l - n) r (by omega) h4
      refine ⟨n :: N, ?_, by simp [hr]⟩
      simp only [enum, List.mem_cons, List.mem_flatMap, List.mem_range, List.mem_map]
      right
      refine ⟨n - 1, by omega, N, ?_, ?_⟩
      · rw [show n - 1 + 1 = n by omega]; exact hN
      · rw [show n - 1 + 1 = n by omega]

def all16 : List (List Nat) := enum 16 16 16
theorem mem_all16 {L : List Int} (h : valid L = true) : ∃ N ∈ all16, L = N.map Int.ofNat := mem_enum 16 16 16 L (by omega) h

/-- what is true of each of the 915 -/
theorem of_all {p : List Nat → Bool} (hp : all16.all p = true) {L : List Int} (h : valid L = true) : ∃ N, p N = true ∧ L = N.map Int.ofNat := by
  obtain ⟨N, hN, e⟩ := mem_all16 h
  exact ⟨N, List.all_eq_true.1 hp N hN, e⟩
end NP
namespace NP
def sumL : List Int → Int | [] => 0 | x :: r => x + sumL r
theorem sumL_append (a b : List Int) : sumL (a ++ b) = sumL a + sumL b := by
  induction a with
  | nil => simp [sumL]
  | cons x r ih => simp [sumL, ih]; omega
theorem sumL_take_succ (L : List Int) (k : Nat) (h : k < L.length) : sumL (L.take (k + 1)) = sumL (L.take k) + L[k] := by
  rw [List.take_succ_eq_append_getElem h, sumL_append]; simp [sumL]
def lastOr (m : Int) (L : List Int) : Int := L.getLastD m
theorem vb_append (m l : Int) (a b : List Int) : vb m l (a ++ b) = (vb m l a && vb (a.getLastD m) (l - sumL a) b) := by
  induction a generalizing m l with
  | nil => simp [vb, sumL]
  | cons x r ih =>
    simp only [List.cons_append, vb, ih, sumL]
    have e : (x :: r).getLastD m = r.getLastD x := by cases r <;> simp [List.getLastD]
    rw [e, show l - x - sumL r = l - (x + sumL r) by omega]
    simp [Bool.and_assoc]
theorem vb_nonneg {m l : Int} {a : List Int} (hl : 0 ≤ l) (h : vb m l a = true) : 0 ≤ sumL a ∧ sumL a ≤ l ∧ (a.length : Int) ≤ sumL a := by
  induction a generalizing m l with
  | nil => simp [sumL]; omega
  | cons x r ih =>
    simp only [vb, Bool.and_eq_true, decide_eq_true_eq] at h
    have := ih (by omega) h.2
    simp only [sumL, List.length_cons]
    omega
theorem valid_bd {L : List Int} (h : valid L = true) : 0 ≤ sumL L ∧ sumL L ≤ 16 ∧ (L.length : Int) ≤ sumL L ∧ L.length ≤ 16 := by
  have := vb_nonneg (by omega) h
  omega
theorem valid_take {L : List Int} (h : valid L = true) (k : Nat) : valid (L.take k) = true := by
  have e := List.take_append_drop k L
  unfold valid at *
  rw [← e, vb_append] at h
  simp at h
  exact h.1
theorem valid_of_take {L : List Int} {k : Nat} (h : valid (L.take k) = false) : valid L = false := by
  cases hv : valid L with
  | false => rfl
  | true => rw [valid_take hv k] at h; cases h
/-- a step of the prefix -/
theorem valid_step {L : List Int} {k : Nat} (hk : k < L.length) (h : valid (L.take k) = true) :
    valid (L.take (k + 1)) = (decide (1 ≤ L[k]) && decide (L[k] ≤ 16 - sumL (L.take k)) && decide (L[k] ≤ (L.take k).getLastD 16)) := by
  rw [List.take_succ_eq_append_getElem hk]
  unfold valid at *
  rw [vb_append, h]
  simp [vb]
theorem last_take {L : List Int} {k : Nat} (hk : k < L.length) : (L.take (k + 1)).getLastD 16 = L[k] := by
  rw [List.take_succ_eq_append_getElem hk, List.getLastD_eq_getLast?, List.getLast?_append]; simp
theorem vb_iff (m l : Int) (L : List Int) : vb m l L = true ↔ (∀ k (h : k < L.length), 1 ≤ L[k] ∧ L[k] ≤ m ∧ (∀ h' : k + 1 < L.length, L[k+1] ≤ L[k])) ∧ (0 < L.length → sumL L ≤ l) := by
  induction L generalizing m l with
  | nil => simp [vb]
  | cons x r ih =>
    simp only [vb, Bool.and_eq_true, decide_eq_true_eq, ih, List.length_cons, sumL]
    constructor
    · rintro ⟨⟨⟨h1, h2⟩, h3⟩, h4, h5⟩
      refine ⟨fun k hk => ?_, fun _ => ?_⟩
      · match k, hk with
        | 0, hk => exact ⟨h1, h3, fun h' => (h4 0 (by omega)).2.1⟩
        | k + 1, hk =>
          have := h4 k (by omega)
          have hx : r[k] ≤ x := by
            clear h5
            exact this.2.1
          exact ⟨this.1, by simp; omega, fun h' => this.2.2 (by omega)⟩
      · rcases Nat.eq_zero_or_pos r.length with h0 | h0
        · have : r = [] := List.eq_nil_of_length_eq_zero h0
          subst this; simp [sumL]; omega
        · have := h5 h0; omega
    · rintro ⟨h4, h5⟩
      have h0 := h4 0 (by omega)
      simp at h0
      have hs : ∀ (r : List Int) (x : Int), (∀ k (h : k < (x :: r).length), 1 ≤ (x :: r)[k]) → 0 ≤ sumL r := by
        intro r
        induction r with
        | nil => intro x _; simp [sumL]
        | cons y s ih => 
          intro x h
          have h1 := h 1 (by simp)
          have := ih y (fun k hk => h (k + 1) (by simpa using hk))
          simp [sumL] at *; omega
      have hr := hs r x (fun k hk => (h4 k (by simpa using hk)).1)
      have h6 := h5 (by omega)
      refine ⟨⟨⟨h0.1, by omega⟩, by omega⟩, fun k hk => ?_, fun _ => by omega⟩
      have h7 := h4 (k + 1) (by omega)
      have mono : ∀ k (hk : k < (x :: r).length), (x :: r)[k] ≤ x := by
        intro k
        induction k with
        | zero => intro _; simp
        | succ k ihk =>
          intro hk
          have := (h4 k (by simp at hk ⊢; omega)).2.2 (by simpa using hk)
          have := ihk (by omega)
          omega
      exact ⟨h7.1, mono (k + 1) (by simpa using hk), fun h' => h7.2.2 (by omega)⟩
end NP
namespace NP
/-- the spec's own prefix condition -/
def preS (L : List Int) (k : Nat) : Prop := ∀ j (h : j < L.length), j < k → 1 ≤ L[j] ∧ L[j] ≤ 16 ∧ (0 < j → L[j] ≤ L[j - 1]'(by omega))
theorem valid_of_preS {L : List Int} (h : preS L L.length) (hs : sumL L ≤ 16) : valid L = true := by
  unfold valid
  rw [vb_iff]
  refine ⟨fun k hk => ?_, fun _ => hs⟩
  have h1 := h k hk hk
  refine ⟨h1.1, h1.2.1, fun h' => ?_⟩
  have h2 := (h (k + 1) h' h').2.2 (by omega)
  simpa using h2
theorem preS_of_valid {L : List Int} (h : valid L = true) : preS L L.length := by
  unfold valid at h
  rw [vb_iff] at h
  intro j hj _
  have h1 := h.1 j hj
  refine ⟨h1.1, h1.2.1, fun h0 => ?_⟩
  have h2 := (h.1 (j - 1) (by omega)).2.2 (by omega)
  have e : j - 1 + 1 = j := by omega
  simp only [e] at h2
  exact h2
theorem preS_succ {L : List Int} {k : Nat} (hk : k < L.length) (h : preS L k) (h1 : 1 ≤ L[k]) (h2 : L[k] ≤ 16) (h3 : 0 < k → L[k] ≤ L[k - 1]'(by omega)) : preS L (k + 1) := by
  intro j hj hjk
  rcases Nat.lt_or_ge j k with hlt | hge
  · exact h j hj hlt
  · obtain rfl : j = k := by omega
    exact ⟨h1, h2, h3⟩
theorem not_valid_at {L : List Int} {k : Nat} (hk : k < L.length) (h : ¬ (1 ≤ L[k] ∧ L[k] ≤ 16 ∧ (0 < k → L[k] ≤ L[k - 1]'(by omega)))) : valid L = false := by
  cases hv : valid L with
  | false => rfl
  | true => exact absurd (preS_of_valid hv k hk hk) h
theorem preS_sum {L : List Int} (h : preS L L.length) : ∀ k, k ≤ L.length → (k : Int) ≤ sumL (L.take k) ∧ sumL (L.take k) ≤ 16 * k := by
  intro k
  induction k with
  | zero => intro _; simp [sumL]
  | succ k ih =>
    intro hk
    have := ih (by omega)
    have h1 := h k (by omega) (by omega)
    rw [sumL_take_succ L k (by omega)]
    omega
end NP
namespace NP
theorem last_take' {L : List Int} {k : Nat} (hk : k < L.length) (h0 : 0 < k) : (L.take k).getLastD 16 = L[k - 1]'(by omega) := by
  have := last_take (L := L) (k := k - 1) (by omega)
  rw [show k - 1 + 1 = k by omega] at this
  exact this
theorem valid_next {L : List Int} {k : Nat} (hk : k < L.length) (h : valid (L.take k) = true) (h1 : 1 ≤ L[k]) (h2 : L[k] ≤ 16 - sumL (L.take k)) (h3 : 0 < k → L[k] ≤ L[k - 1]'(by omega)) : valid (L.take (k + 1)) = true := by
  rw [valid_step hk h]
  have hb := valid_bd h
  rcases Nat.eq_zero_or_pos k with h0 | h0
  · subst h0
    simp at h2 ⊢
    simp [sumL] at h2 ⊢
    omega
  · rw [last_take' hk h0]
    have := h3 h0
    simp; omega
theorem valid_stop {L : List Int} {k : Nat} (hk : k < L.length) (h : valid (L.take k) = true) (hn : ¬ (1 ≤ L[k] ∧ L[k] ≤ 16 - sumL (L.take k) ∧ (0 < k → L[k] ≤ L[k - 1]'(by omega)))) : valid L = false := by
  cases hv : valid L with
  | false => rfl
  | true =>
    have h1 := valid_take hv (k + 1)
    rw [valid_step hk h] at h1
    simp at h1
    exact absurd ⟨h1.1.1, h1.1.2, fun h0 => by rw [← last_take' hk h0]; simpa using h1.2⟩ hn
end NP
namespace NP
/-- the parts and 0 behind them -/
def pad (L : List Int) : List Int := L ++ List.replicate (16 - L.length) 0
theorem pad_len {L : List Int} (h : L.length ≤ 16) : (pad L).length = 16 := by simp [pad]; omega
theorem pad_set {L : List Int} {k : Nat} (hk : k < L.length) (h : k < 16) : (pad (L.take k)).set k L[k] = pad (L.take (k + 1)) := by
  unfold pad
  have e1 : (L.take k).length = k := by simp; omega
  have e2 : (L.take (k + 1)).length = k + 1 := by simp; omega
  rw [e1, e2, show 16 - k = (16 - (k + 1)) + 1 by omega, List.replicate_succ, List.set_append_right _ _ (by omega), e1, Nat.sub_self, List.set_cons_zero, List.take_succ_eq_append_getElem hk, List.append_assoc]
  simp
/-- the array that diagramOf returns -/
def dg (L : List Int) : List Int := if valid L then pad L else List.replicate 16 0
theorem dg_yes {L : List Int} (h : valid L = true) : dg L = pad L := by simp [dg, h]
theorem dg_no {L : List Int} (h : valid L = false) : dg L = List.replicate 16 0 := by simp [dg, h]

/-- how far a test holds from k on, f places at most -/
def ffrom (p : Nat → Bool) : Nat → Nat → Nat
  | 0, k => k
  | f + 1, k => if p k then ffrom p f (k + 1) else k
def ff (p : Nat → Bool) (n : Nat) : Nat := ffrom p n 0
theorem ffrom_eq (p : Nat → Bool) : ∀ (f k0 k : Nat), (∀ j, k0 ≤ j → j < k → p j = true) → k0 ≤ k → k ≤ k0 + f → (k = k0 + f ∨ p k = false) → ffrom p f k0 = k := by
  intro f
  induction f with
  | zero => intro k0 k _ h1 h2 _; simp only [ffrom]; omega
  | succ f ih =>
    intro k0 k h h1 h2 h3
    simp only [ffrom]
    by_cases hk : k = k0
    · subst hk
      rcases h3 with h3 | h3
      · omega
      · simp [h3]
    · rw [if_pos (h k0 (Nat.le_refl _) (by omega))]
      exact ih (k0 + 1) k (fun j hj hjk => h j (by omega) hjk) (by omega) (by omega) (h3.imp (by omega) id)
theorem ff_eq {p : Nat → Bool} {n k : Nat} (h : ∀ j, j < k → p j = true) (h2 : k ≤ n) (h3 : k = n ∨ p k = false) : ff p n = k :=
  ffrom_eq p n 0 k (fun j _ hj => h j hj) (Nat.zero_le _) (by omega) (by simpa using h3)

theorem pad_get {L : List Int} {k : Nat} (h : L.length ≤ 16) (hk : k < L.length) : (pad L)[k]'(by rw [pad_len h]; omega) = L[k] := by simp [pad, List.getElem_append_left hk]
theorem pad_get0 {L : List Int} {k : Nat} (h : L.length ≤ 16) (hk : L.length ≤ k) (h16 : k < 16) : (pad L)[k]'(by rw [pad_len h]; omega) = 0 := by simp [pad, List.getElem_append_right hk]
theorem pad_take {L : List Int} : (pad L).take L.length = L := by simp [pad]

/-- how many are at least k -/
def cnt (k : Int) : List Int → Int
  | [] => 0
  | x :: r => (if k ≤ x then 1 else 0) + cnt k r
theorem cnt_append (k : Int) (a b : List Int) : cnt k (a ++ b) = cnt k a + cnt k b := by
  induction a with
  | nil => simp [cnt]
  | cons x r ih => simp [cnt, ih]; omega
theorem cnt_take_succ (k : Int) (L : List Int) (i : Nat) (h : i < L.length) : cnt k (L.take (i + 1)) = cnt k (L.take i) + (if k ≤ L[i] then 1 else 0) := by
  rw [List.take_succ_eq_append_getElem h, cnt_append]; simp [cnt]
theorem cnt_bd (k : Int) (L : List Int) : 0 ≤ cnt k L ∧ cnt k L ≤ L.length := by
  induction L with
  | nil => simp [cnt]
  | cons x r ih => simp only [cnt, List.length_cons]; split <;> omega
theorem cnt_anti {k l : Int} (h : k ≤ l) (L : List Int) : cnt l L ≤ cnt k L := by
  induction L with
  | nil => simp [cnt]
  | cons x r ih => simp only [cnt]; (repeat' split) <;> omega
theorem cnt_zero {k : Int} (hk : 1 ≤ k) (n : Nat) : cnt k (List.replicate n 0) = 0 := by
  induction n with
  | zero => rfl
  | succ n ih => rw [List.replicate_succ, cnt, ih]; split <;> omega
theorem cnt_pad {k : Int} (hk : 1 ≤ k) (L : List Int) : cnt k (pad L) = cnt k L := by unfold pad; rw [cnt_append, cnt_zero hk]; omega
theorem cnt_none {k : Int} {L : List Int} (h : ∀ x ∈ L, x < k) : cnt k L = 0 := by
  induction L with
  | nil => rfl
  | cons x r ih =>
    rw [cnt, ih (fun y hy => h y (by simp [hy]))]
    have := h x (by simp)
    split <;> omega
def conj (L : List Int) : List Int := (List.range (L.headD 0).toNat).map fun (j : Nat) => cnt ((j : Int) + 1) L
theorem conj_len (L : List Int) : (conj L).length = (L.headD 0).toNat := by simp [conj]
theorem conj_get (L : List Int) (k : Nat) (h : k < (conj L).length) : (conj L)[k] = cnt ((k : Int) + 1) L := by simp [conj]
theorem head_ge {L : List Int} (h : valid L = true) : ∀ x ∈ L, x ≤ L.headD 0 := by
  have hp := preS_of_valid h
  have key : ∀ k (hk : k < L.length), L[k] ≤ L.headD 0 := by
    intro k
    induction k with
    | zero => intro hk; cases L <;> simp at hk ⊢
    | succ k ih =>
      intro hk
      have h1 := (hp (k + 1) hk hk).2.2 (by omega)
      have h2 := ih (by omega)
      simp at h1
      omega
  intro x hx
  obtain ⟨k, hk, rfl⟩ := List.getElem_of_mem hx
  exact key k hk
theorem headD_bd {L : List Int} (h : valid L = true) : 0 ≤ L.headD 0 ∧ L.headD 0 ≤ 16 := by
  have hp := preS_of_valid h
  cases L with
  | nil => simp
  | cons x r => have := hp 0 (by simp) (by simp); simp at this ⊢; omega
def tsum (n : Nat) (x : Int) : Int := sumL ((List.range n).map fun (j : Nat) => if (j : Int) + 1 ≤ x then 1 else 0)
theorem tsum_le (n : Nat) (x : Int) (hx : 0 ≤ x) : tsum n x ≤ x ∧ tsum n x ≤ n := by
  induction n with
  | zero => simp [tsum, sumL]; exact hx
  | succ n ih =>
    have e : tsum (n + 1) x = tsum n x + if (n : Int) + 1 ≤ x then 1 else 0 := by
      simp [tsum, List.range_succ, sumL_append, sumL]
    rw [e]
    split <;> omega
theorem csum_le (n : Nat) (L : List Int) (h : ∀ x ∈ L, 0 ≤ x) : sumL ((List.range n).map fun (j : Nat) => cnt ((j : Int) + 1) L) ≤ sumL L := by
  induction L with
  | nil =>
    have : ∀ n : Nat, sumL ((List.range n).map fun (j : Nat) => cnt ((j : Int) + 1) []) = 0 := by
      intro n
      induction n with
      | zero => rfl
      | succ n ih => rw [List.range_succ, List.map_append, sumL_append, ih]; simp [cnt, sumL]
    rw [this]; simp [sumL]
  | cons x r ih =>
    have e : ∀ n : Nat, sumL ((List.range n).map fun (j : Nat) => cnt ((j : Int) + 1) (x :: r)) = tsum n x + sumL ((List.range n).map fun (j : Nat) => cnt ((j : Int) + 1) r) := by
      intro n
      induction n with
      | zero => rfl
      | succ n ih => 
        have e2 : tsum (n + 1) x = tsum n x + if (n : Int) + 1 ≤ x then 1 else 0 := by
          simp [tsum, List.range_succ, sumL_append, sumL]
        rw [List.range_succ, List.map_append, sumL_append, ih, List.map_append, sumL_append, e2]
        simp [cnt, sumL]; omega
    rw [e, sumL]
    have h1 := (tsum_le n x (h x (by simp))).1
    have h2 := ih (fun y hy => h y (by simp [hy]))
    omega
theorem valid_nonneg {L : List Int} (h : valid L = true) : ∀ x ∈ L, 0 ≤ x := by
  intro x hx
  obtain ⟨k, hk, rfl⟩ := List.getElem_of_mem hx
  have := preS_of_valid h k hk hk
  omega
theorem valid_conj {L : List Int} (h : valid L = true) : valid (conj L) = true := by
  have hb := valid_bd h
  have hc : ∀ k : Nat, cnt k L ≤ 16 := fun k => by have := (cnt_bd k L).2; omega
  unfold valid
  rw [vb_iff]
  refine ⟨fun k hk => ?_, fun _ => ?_⟩
  · rw [conj_get]
    rw [conj_len] at hk
    refine ⟨?_, by have := (cnt_bd ((k : Int) + 1) L).2; omega, fun h' => ?_⟩
    · cases L with
      | nil => simp at hk
      | cons x r =>
        simp at hk
        have := (cnt_bd ((k : Int) + 1) r).1
        rw [cnt, if_pos (by omega)]
        omega
    · rw [conj_get]
      exact cnt_anti (by omega) L
  · have := csum_le (L.headD 0).toNat L (valid_nonneg h)
    unfold conj
    omega
theorem conj_pad {L : List Int} (h : valid L = true) : ((List.range 16).map fun (j : Nat) => cnt ((j : Int) + 1) (pad L)) = pad (conj L) := by
  have hb := headD_bd h
  have hlen : (conj L).length ≤ 16 := by rw [conj_len]; omega
  apply List.ext_getElem
  · rw [pad_len hlen]; simp
  · intro k h1 h2
    simp at h1
    rw [List.getElem_map, List.getElem_range, cnt_pad (by omega)]
    by_cases hk : k < (conj L).length
    · rw [pad_get hlen hk, conj_get]
    · rw [pad_get0 hlen (by omega) h1]
      rw [conj_len] at hk
      exact cnt_none fun x hx => by have := head_ge h x hx; omega
end NP
namespace NP
theorem tsum_eq (n : Nat) (x : Int) (hx : 0 ≤ x) (hn : x ≤ n) : tsum n x = x := by
  have key : ∀ k : Nat, tsum k x = if (k : Int) ≤ x then (k : Int) else x := by
    intro k
    induction k with
    | zero => simp [tsum, sumL]; omega
    | succ k ih =>
      have e : tsum (k + 1) x = tsum k x + if (k : Int) + 1 ≤ x then 1 else 0 := by
        simp [tsum, List.range_succ, sumL_append, sumL]
      rw [e, ih]
      (repeat' split) <;> omega
  rw [key]
  split <;> omega
theorem csum_eq (n : Nat) (L : List Int) (h : ∀ x ∈ L, 0 ≤ x ∧ x ≤ n) : sumL ((List.range n).map fun (j : Nat) => cnt ((j : Int) + 1) L) = sumL L := by
  induction L with
  | nil =>
    have : ∀ n : Nat, sumL ((List.range n).map fun (j : Nat) => cnt ((j : Int) + 1) []) = 0 := by
      intro n
      induction n with
      | zero => rfl
      | succ n ih => rw [List.range_succ, List.map_append, sumL_append, ih]; simp [cnt, sumL]
    rw [this]; simp [sumL]
  | cons x r ih =>
    have e : ∀ n : Nat, sumL ((List.range n).map fun (j : Nat) => cnt ((j : Int) + 1) (x :: r)) = tsum n x + sumL ((List.range n).map fun (j : Nat) => cnt ((j : Int) + 1) r) := by
      intro n
      induction n with
      | zero => rfl
      | succ n ih =>
        have e2 : tsum (n + 1) x = tsum n x + if (n : Int) + 1 ≤ x then 1 else 0 := by
          simp [tsum, List.range_succ, sumL_append, sumL]
        rw [List.range_succ, List.map_append, sumL_append, ih, List.map_append, sumL_append, e2]
        simp [cnt, sumL]; omega
    have hx := h x (by simp)
    rw [e, tsum_eq n x hx.1 hx.2, sumL, ih (fun y hy => h y (by simp [hy]))]
theorem sumL_conj {L : List Int} (h : valid L = true) : sumL (conj L) = sumL L := by
  unfold conj
  refine csum_eq _ _ fun x hx => ?_
  have h1 := valid_nonneg h x hx
  have h2 := head_ge h x hx
  omega
end NP
namespace NP
theorem falls_all {L : List Int} (h : valid L = true) : ∀ i j (hi : i < L.length) (_ : j ≤ i), L[i] ≤ L[j]'(by omega) := by
  have hp := preS_of_valid h
  intro i
  induction i with
  | zero => intro j hi hj; obtain rfl : j = 0 := (by omega); exact Int.le_refl _
  | succ i ih =>
    intro j hi hj
    rcases Nat.lt_or_ge j (i + 1) with h1 | h1
    · have h2 := (hp (i + 1) hi hi).2.2 (by omega)
      simp at h2
      have := ih j (by omega) (by omega)
      omega
    · obtain rfl : j = i + 1 := by omega
      omega
theorem cnt_all {t : Int} {L : List Int} (h : ∀ x ∈ L, t ≤ x) : cnt t L = L.length := by
  induction L with
  | nil => rfl
  | cons x r ih =>
    rw [cnt, ih (fun y hy => h y (by simp [hy])), if_pos (h x (by simp))]
    simp; omega
theorem cnt_ge_iff {L : List Int} (h : valid L = true) {k : Nat} (hk : k < L.length) (t : Int) : ((k : Int) + 1 ≤ cnt t L) ↔ t ≤ L[k] := by
  have hf := falls_all h
  constructor
  · intro h1
    rcases Int.lt_or_le L[k] t with h2 | h2
    · have e : L = L.take k ++ L.drop k := (List.take_append_drop k L).symm
      rw [e, cnt_append] at h1
      have e2 : cnt t (L.drop k) = 0 := cnt_none fun x hx => by
        obtain ⟨i, hi, rfl⟩ := List.getElem_of_mem hx
        simp at hi ⊢
        have := hf (k + i) k (by omega) (by omega)
        omega
      have := (cnt_bd t (L.take k)).2
      simp at this
      omega
    · exact h2
  · intro h1
    have e : L = L.take (k + 1) ++ L.drop (k + 1) := (List.take_append_drop (k + 1) L).symm
    rw [e, cnt_append]
    have e2 : cnt t (L.take (k + 1)) = (L.take (k + 1)).length := cnt_all fun x hx => by
      obtain ⟨i, hi, rfl⟩ := List.getElem_of_mem hx
      simp at hi ⊢
      have := hf k i hk (by omega)
      omega
    have := (cnt_bd t (L.drop (k + 1))).1
    rw [e2]
    simp
    omega
theorem cnt_range (n : Nat) (f : Nat → Int) (t m : Int) (hm : 0 ≤ m) (hf : ∀ j : Nat, j < n → (t ≤ f j ↔ (j : Int) + 1 ≤ m)) : cnt t ((List.range n).map f) = if (n : Int) ≤ m then (n : Int) else m := by
  induction n with
  | zero => simp [cnt]; omega
  | succ n ih =>
    rw [List.range_succ, List.map_append, cnt_append, ih (fun j hj => hf j (by omega))]
    have h1 := hf n (by omega)
    simp only [List.map_cons, List.map_nil, cnt]
    by_cases h2 : (n : Int) + 1 ≤ m
    · rw [if_pos (h1.2 h2)]; (repeat' split) <;> omega
    · rw [if_neg (fun h3 => h2 (h1.1 h3))]; (repeat' split) <;> omega
theorem cnt_one {L : List Int} (h : valid L = true) : cnt 1 L = L.length := cnt_all fun x hx => by
  obtain ⟨k, hk, rfl⟩ := List.getElem_of_mem hx
  exact (preS_of_valid h k hk hk).1
theorem headD_get (M : List Int) (h : 0 < M.length) : M.headD 0 = M[0] := by cases M <;> simp at h ⊢
theorem head_conj {L : List Int} (h : valid L = true) : ((conj L).headD 0).toNat = L.length := by
  cases L with
  | nil => rfl
  | cons x r =>
    have hp := preS_of_valid h 0 (by simp) (by simp)
    simp at hp
    have h1 : 0 < (conj (x :: r)).length := by rw [conj_len]; simp; omega
    rw [headD_get _ h1, conj_get]
    simp only [Int.ofNat_zero, Int.zero_add]
    have := cnt_one h
    simp at this ⊢
    rw [this]
    omega
theorem conj_conj {L : List Int} (h : valid L = true) : conj (conj L) = L := by
  apply List.ext_getElem
  · rw [conj_len, head_conj h]
  · intro k h1 h2
    rw [conj_get]
    have hb := preS_of_valid h k h2 h2
    have hh := head_ge h L[k] (List.getElem_mem h2)
    have hd := headD_bd h
    have e : cnt ((k : Int) + 1) (conj L) = if (((L.headD 0).toNat : Nat) : Int) ≤ L[k] then (((L.headD 0).toNat : Nat) : Int) else L[k] :=
      cnt_range _ _ _ _ (by omega) fun j hj => cnt_ge_iff h h2 ((j : Int) + 1)
    rw [e]
    split <;> omega
theorem conj_nil_iff {L : List Int} (h : valid L = true) : (conj L).length = 0 ↔ L.length = 0 := by
  rw [conj_len]
  cases L with
  | nil => simp
  | cons x r =>
    have hp := preS_of_valid h 0 (by simp) (by simp)
    simp at hp ⊢
    omega
end NP
namespace NP
theorem ffrom_spec (p : Nat → Bool) : ∀ (f k : Nat), k ≤ ffrom p f k ∧ ffrom p f k ≤ k + f ∧ (∀ j, k ≤ j → j < ffrom p f k → p j = true) ∧ (ffrom p f k = k + f ∨ p (ffrom p f k) = false) := by
  intro f
  induction f with
  | zero => intro k; simp only [ffrom]; exact ⟨Nat.le_refl _, Nat.le_refl _, fun j h1 h2 => by omega, .inl rfl⟩
  | succ f ih =>
    intro k
    simp only [ffrom]
    cases hp : p k with
    | true =>
      rw [if_pos rfl]
      have h := ih (k + 1)
      refine ⟨by omega, by omega, fun j h1 h2 => ?_, h.2.2.2.imp (by omega) id⟩
      rcases Nat.lt_or_ge k j with h3 | h3
      · exact h.2.2.1 j (by omega) h2
      · obtain rfl : j = k := by omega
        exact hp
    | false => rw [if_neg (by simp)]; exact ⟨Nat.le_refl _, by omega, fun j h1 h2 => by omega, .inr hp⟩
theorem ff_spec (p : Nat → Bool) (n : Nat) : ff p n ≤ n ∧ (∀ j, j < ff p n → p j = true) ∧ (ff p n = n ∨ p (ff p n) = false) := by
  have h := ffrom_spec p n 0
  exact ⟨by have := h.2.1; unfold ff; omega, fun j hj => h.2.2.1 j (Nat.zero_le _) hj, by have := h.2.2.2; unfold ff; rw [Nat.zero_add] at this; exact this⟩
def durS (L : List Int) : Nat := ff (fun (k : Nat) => decide ((k : Int) < L.getD k 0)) L.length
theorem durS_spec (L : List Int) : durS L ≤ L.length ∧ (∀ j : Nat, j < durS L → (j : Int) < L.getD j 0) ∧ ¬ ((durS L : Nat) : Int) < L.getD (durS L) 0 := by
  have h := ff_spec (fun (k : Nat) => decide ((k : Int) < L.getD k 0)) L.length
  refine ⟨h.1, fun j hj => by simpa using h.2.1 j hj, ?_⟩
  rcases h.2.2 with h1 | h1
  · unfold durS
    rw [h1, List.getD_eq_getElem?_getD, List.getElem?_eq_none (Nat.le_refl _)]
    simp
  · unfold durS
    exact of_decide_eq_false h1
theorem durS_unique {L : List Int} {d : Nat} (h1 : ∀ j : Nat, j < d → (j : Int) < L.getD j 0) (h2 : ¬ (d : Int) < L.getD d 0) : durS L = d := by
  have h := durS_spec L
  rcases Nat.lt_trichotomy (durS L) d with h3 | h3 | h3
  · exact absurd (h1 _ h3) h.2.2
  · exact h3
  · exact absurd (h.2.1 _ h3) h2
theorem getD_lt {L : List Int} {j : Nat} (h : j < L.length) : L.getD j 0 = L[j] := by rw [List.getD_eq_getElem?_getD, List.getElem?_eq_getElem h]; rfl
theorem getD_ge {L : List Int} {j : Nat} (h : L.length ≤ j) : L.getD j 0 = 0 := by rw [List.getD_eq_getElem?_getD, List.getElem?_eq_none h]; rfl
theorem conj_diag {L : List Int} (h : valid L = true) (j : Nat) : ((j : Int) < (conj L).getD j 0) ↔ (j : Int) < L.getD j 0 := by
  have hd := headD_bd h
  by_cases h1 : j < (conj L).length
  · rw [getD_lt h1, conj_get]
    by_cases h2 : j < L.length
    · rw [getD_lt h2]
      have := cnt_ge_iff h h2 ((j : Int) + 1)
      omega
    · rw [getD_ge (by omega)]
      have := (cnt_bd ((j : Int) + 1) L).2
      omega
  · rw [getD_ge (L := conj L) (by omega)]
    rw [conj_len] at h1
    by_cases h2 : j < L.length
    · rw [getD_lt h2]
      have := head_ge h L[j] (List.getElem_mem h2)
      omega
    · rw [getD_ge (by omega)]
theorem durS_conj {L : List Int} (h : valid L = true) : durS (conj L) = durS L := by
  have hs := durS_spec L
  exact durS_unique (fun j hj => (conj_diag h j).2 (hs.2.1 j hj)) (fun h1 => hs.2.2 ((conj_diag h _).1 h1))
theorem sum_ge (c : Int) (L : List Int) (h : ∀ x ∈ L, c ≤ x) : c * L.length ≤ sumL L := by
  induction L with
  | nil => simp [sumL]
  | cons x r ih =>
    have h1 := ih (fun y hy => h y (by simp [hy]))
    have h2 := h x (by simp)
    simp only [sumL, List.length_cons]
    have e : c * ((r.length + 1 : Nat) : Int) = c * (r.length : Int) + c := by rw [Int.natCast_add]; simp [Int.mul_add]
    omega
theorem durS_sq {L : List Int} (h : valid L = true) : ((durS L : Nat) : Int) * ((durS L : Nat) : Int) ≤ sumL L := by
  have hs := durS_spec L
  have hf := falls_all h
  have h1 := sum_ge ((durS L : Nat) : Int) (L.take (durS L)) fun x hx => by
    obtain ⟨i, hi, rfl⟩ := List.getElem_of_mem hx
    simp at hi ⊢
    have h2 := hs.2.1 (durS L - 1) (by omega)
    rw [getD_lt (by omega)] at h2
    have := hf (durS L - 1) i (by omega) (by omega)
    omega
  have h2 := sum_ge 0 (L.drop (durS L)) fun x hx => valid_nonneg h x (List.mem_of_mem_drop hx)
  have e : sumL L = sumL (L.take (durS L)) + sumL (L.drop (durS L)) := by rw [← sumL_append, List.take_append_drop]
  rw [List.length_take_of_le hs.1] at h1
  omega
theorem durS_pos {L : List Int} (h : valid L = true) : 0 < durS L ↔ 0 < L.length := by
  have hs := durS_spec L
  constructor
  · intro h1; omega
  · intro h1
    rcases Nat.eq_zero_or_pos (durS L) with h2 | h2
    · have h3 := hs.2.2
      rw [h2, getD_lt h1] at h3
      have := preS_of_valid h 0 h1 h1
      omega
    · exact h2
end NP
end Go.Proofs.Ythafbdpeignccaa
namespace Go.Proofs.Ythafbdpeignccaa
namespace NP
/-- how many are k -/
def eqc (k : Int) : List Int → Int
  | [] => 0
  | x :: r => (if x = k then 1 else 0) + eqc k r
theorem eqc_append (k : Int) (a b : List Int) : eqc k (a ++ b) = eqc k a + eqc k b := by
  induction a with
  | nil => simp [eqc]
  | cons x r ih => simp [eqc, ih]; omega
theorem eqc_take_succ (k : Int) (L : List Int) (i : Nat) (h : i < L.length) : eqc k (L.take (i + 1)) = eqc k (L.take i) + (if L[i] = k then 1 else 0) := by
  rw [List.take_succ_eq_append_getElem h, eqc_append]; simp [eqc]
theorem eqc_bd (k : Int) (L : List Int) : 0 ≤ eqc k L ∧ eqc k L ≤ L.length := by
  induction L with
  | nil => simp [eqc]
  | cons x r ih => simp only [eqc, List.length_cons]; split <;> omega
theorem eqc_cnt (k : Int) (L : List Int) : eqc k L = cnt k L - cnt (k + 1) L := by
  induction L with
  | nil => simp [eqc, cnt]
  | cons x r ih => simp only [eqc, cnt, ih]; (repeat' split) <;> omega
def tim (L : List Int) : List Int := (List.range (L.headD 0).toNat).map fun (j : Nat) => eqc ((j : Int) + 1) L
theorem tim_len (L : List Int) : (tim L).length = (L.headD 0).toNat := by simp [tim]
theorem tim_get (L : List Int) (k : Nat) (h : k < (tim L).length) : (tim L)[k] = eqc ((k : Int) + 1) L := by simp [tim]
def timF (L : List Int) : List Int := if valid L then tim L else []
theorem timF_yes {L : List Int} (h : valid L = true) : timF L = tim L := by simp [timF, h]
theorem timF_no {L : List Int} (h : valid L = false) : timF L = [] := by simp [timF, h]
theorem timF_len (L : List Int) : (timF L).length ≤ 16 := by
  unfold timF
  split
  · rename_i h
    rw [tim_len]
    have := headD_bd h
    omega
  · simp
def tacc (L : List Int) (H k : Nat) : List Int := (List.range H).map fun (j : Nat) => eqc ((j : Int) + 1) (L.take k)
theorem tacc_len (L : List Int) (H k : Nat) : (tacc L H k).length = H := by simp [tacc]
theorem tacc_get (L : List Int) (H k j : Nat) (h : j < (tacc L H k).length) : (tacc L H k)[j] = eqc ((j : Int) + 1) (L.take k) := by simp [tacc]
theorem tacc_zero (L : List Int) (H : Nat) : tacc L H 0 = List.replicate H 0 := by
  apply List.ext_getElem
  · simp [tacc]
  · intro j h1 h2
    rw [tacc_get]
    simp [eqc]
theorem tacc_set (L : List Int) (H k m : Nat) (hk : k < L.length) (hm : L[k] = (m : Int) + 1) : (tacc L H k).set m (eqc ((m : Int) + 1) (L.take k) + 1) = tacc L H (k + 1) := by
  apply List.ext_getElem
  · simp [tacc]
  · intro j h1 h2
    rw [tacc_get, eqc_take_succ _ L k hk]
    by_cases hj : m = j
    · subst hj
      rw [List.getElem_set_self, if_pos hm]
    · rw [List.getElem_set_ne hj, tacc_get, if_neg (by omega)]
      omega
theorem tacc_end (L : List Int) : tacc L (L.headD 0).toNat L.length = tim L := by
  unfold tacc tim
  rw [List.take_of_length_le (Nat.le_refl _)]
/-- the indices of the corners -/
def isC (L : List Int) (i : Nat) : Bool := decide (i + 1 = L.length) || decide (L.getD (i + 1) 0 < L.getD i 0)
def crnTo (L : List Int) (n : Nat) : List Int := ((List.range n).filter (isC L)).map Int.ofNat
def crn (L : List Int) : List Int := crnTo L L.length
theorem crnTo_succ (L : List Int) (n : Nat) : crnTo L (n + 1) = crnTo L n ++ if isC L n then [(n : Int)] else [] := by
  unfold crnTo
  rw [List.range_succ, List.filter_append, List.map_append]
  congr 1
  cases h : isC L n <;> simp [h]
theorem crnTo_len (L : List Int) (n : Nat) : (crnTo L n).length ≤ n := by
  unfold crnTo
  rw [List.length_map]
  exact Nat.le_trans (List.length_filter_le _ _) (by simp)
def crnF (L : List Int) : List Int := if valid L then crn L else []
theorem crnF_yes {L : List Int} (h : valid L = true) : crnF L = crn L := by simp [crnF, h]
theorem crnF_no {L : List Int} (h : valid L = false) : crnF L = [] := by simp [crnF, h]
theorem crnF_len (L : List Int) : (crnF L).length ≤ 16 := by
  unfold crnF
  split
  · rename_i h
    exact Nat.le_trans (crnTo_len L _) (valid_bd h).2.2.2
  · simp
end NP
end Go.Proofs.Ythafbdpeignccaa
namespace Go.Proofs.Ythafbdpeignccaa
namespace NP
/-- corners of a padded row -/
def isCD (D : List Int) (i : Nat) : Bool := decide (0 < D.getD i 0) && (decide (i = 15) || decide (D.getD (i + 1) 0 < D.getD i 0))
def fl (p : Nat → Bool) (n : Nat) : List Int := ((List.range n).filter p).map Int.ofNat
theorem fl_succ (p : Nat → Bool) (n : Nat) : fl p (n + 1) = fl p n ++ if p n then [(n : Int)] else [] := by
  unfold fl
  rw [List.range_succ, List.filter_append, List.map_append]
  congr 1
  cases h : p n <;> simp [h]
theorem fl_len (p : Nat → Bool) (n : Nat) : (fl p n).length ≤ n := by
  unfold fl
  rw [List.length_map]
  exact Nat.le_trans (List.length_filter_le _ _) (by simp)
theorem fl_congr (p q : Nat → Bool) (n : Nat) (h : ∀ i, i < n → p i = q i) : fl p n = fl q n := by
  induction n with
  | zero => rfl
  | succ n ih => rw [fl_succ, fl_succ, ih (fun i hi => h i (by omega)), h n (by omega)]
theorem fl_no (p : Nat → Bool) (n m : Nat) (hm : n ≤ m) (h : ∀ i, n ≤ i → i < m → p i = false) : fl p m = fl p n := by
  induction m with
  | zero => obtain rfl : n = 0 := by omega
            rfl
  | succ m ih =>
    rcases Nat.lt_or_ge m n with h1 | h1
    · obtain rfl : n = m + 1 := by omega
      rfl
    · rw [fl_succ, h m h1 (by omega), ih h1 (fun i hi hi2 => h i hi (by omega))]
      simp
theorem crnTo_fl (L : List Int) (n : Nat) : crnTo L n = fl (isC L) n := rfl
theorem pad_getD {M : List Int} (h : M.length ≤ 16) (k : Nat) : (pad M).getD k 0 = M.getD k 0 := by
  rcases Nat.lt_or_ge k 16 with h1 | h1
  · rcases Nat.lt_or_ge k M.length with h2 | h2
    · rw [List.getD_eq_getElem?_getD, List.getElem?_eq_getElem (by rw [pad_len h]; omega), Option.getD_some, pad_get h h2, List.getD_eq_getElem?_getD, List.getElem?_eq_getElem h2]
      rfl
    · rw [List.getD_eq_getElem?_getD, List.getElem?_eq_getElem (by rw [pad_len h]; omega), Option.getD_some, pad_get0 h h2 h1, List.getD_eq_getElem?_getD, List.getElem?_eq_none h2]
      rfl
  · rw [List.getD_eq_getElem?_getD, List.getElem?_eq_none (by rw [pad_len h]; omega), List.getD_eq_getElem?_getD, List.getElem?_eq_none (by omega)]
theorem getD_pos {L : List Int} (hv : valid L = true) {i : Nat} (h : i < L.length) : 1 ≤ L.getD i 0 := by
  rw [List.getD_eq_getElem?_getD, List.getElem?_eq_getElem h, Option.getD_some]
  exact (preS_of_valid hv i h h).1
theorem getD_out {L : List Int} {i : Nat} (h : L.length ≤ i) : L.getD i 0 = 0 := by
  rw [List.getD_eq_getElem?_getD, List.getElem?_eq_none h]
  rfl
theorem isCD_pad {L : List Int} (hv : valid L = true) (i : Nat) : isCD (pad L) i = if i < L.length then isC L i else false := by
  have hl := (valid_bd hv).2.2.2
  unfold isCD isC
  rw [pad_getD hl, pad_getD hl]
  split
  · rename_i h
    have h1 := getD_pos hv h
    have e1 : decide (0 < L.getD i 0) = true := decide_eq_true (by omega)
    rw [e1, Bool.true_and]
    by_cases h15 : i = 15
    · have e2 : decide (i = 15) = true := decide_eq_true h15
      have e3 : decide (i + 1 = L.length) = true := decide_eq_true (by omega)
      rw [e2, e3]
    · have e2 : decide (i = 15) = false := decide_eq_false h15
      rw [e2, Bool.false_or]
      by_cases h3 : i + 1 = L.length
      · have e3 : decide (i + 1 = L.length) = true := decide_eq_true h3
        rw [e3, Bool.true_or, getD_out (by omega)]
        exact decide_eq_true (by omega)
      · have e3 : decide (i + 1 = L.length) = false := decide_eq_false h3
        rw [e3, Bool.false_or]
  · rename_i h
    rw [getD_out (by omega)]
    rfl
theorem crn_pad {L : List Int} (hv : valid L = true) : fl (isCD (pad L)) 16 = crn L := by
  have hl := (valid_bd hv).2.2.2
  rw [fl_no _ L.length 16 hl (fun i h1 _ => by rw [isCD_pad hv, if_neg (by omega)])]
  exact fl_congr _ _ _ fun i hi => by rw [isCD_pad hv, if_pos hi]
end NP
end Go.Proofs.Ythafbdpeignccaa
namespace Go.Proofs.Ythafbdpeignccaa
namespace NP
set_option linter.unusedVariables false
def hasI (M : List Int) (n : Int) : Bool := decide (n ∈ M)
theorem hasI_fl (p : Nat → Bool) (n : Nat) (i : Int) : hasI (fl p n) i = (decide (0 ≤ i) && decide (i < n) && p i.toNat) := by
  unfold hasI fl
  by_cases h0 : 0 ≤ i
  · obtain ⟨k, rfl⟩ := Int.eq_ofNat_of_zero_le h0
    have e : ((k : Int) ∈ ((List.range n).filter p).map Int.ofNat) ↔ (k < n ∧ p k = true) := by
      simp only [List.mem_map, List.mem_filter, List.mem_range]
      constructor
      · rintro ⟨a, ha, e⟩
        have : (a : Int) = (k : Int) := e
        obtain rfl : a = k := by omega
        exact ha
      · intro h
        exact ⟨k, h, rfl⟩
    simp only [e, Int.toNat_natCast]
    cases hp : p k <;> simp
  · have e : ¬ (i ∈ ((List.range n).filter p).map Int.ofNat) := by
      simp only [List.mem_map]
      rintro ⟨a, _, e⟩
      have : (a : Int) = i := e
      omega
    simp [e, h0]
theorem hasI_cons (x : Int) (M : List Int) (n : Int) : hasI (x :: M) n = (decide (n = x) || hasI M n) := by
  unfold hasI
  simp
theorem sumL_set (L : List Int) (k : Nat) (h : k < L.length) (x : Int) : sumL (L.set k x) = sumL L - L[k] + x := by
  induction L generalizing k with
  | nil => simp at h
  | cons y r ih =>
    cases k with
    | zero => simp [sumL]; omega
    | succ k =>
      simp only [List.set_cons_succ, sumL, List.getElem_cons_succ]
      rw [ih k (by simpa using h)]
      omega
theorem elem_le_sum {L : List Int} (h : ∀ x ∈ L, 0 ≤ x) {q : Nat} (hq : q < L.length) : L[q] ≤ sumL L ∧ 0 ≤ sumL L := by
  induction L generalizing q with
  | nil => simp at hq
  | cons x r ih =>
    have hx := h x (by simp)
    have hr : 0 ≤ sumL r := by
      cases r with
      | nil => simp [sumL]
      | cons y t => exact (ih (fun z hz => h z (by simp [hz])) (q := 0) (by simp)).2
    cases q with
    | zero => simp [sumL]; omega
    | succ q =>
      have := (ih (fun z hz => h z (by simp [hz])) (q := q) (by simpa using hq)).1
      simp only [List.getElem_cons_succ, sumL]
      omega
/-- a cell less -/
def lessL (L : List Int) (k : Nat) : List Int := if L.getD k 0 - 1 = 0 then (L.set k (L.getD k 0 - 1)).take k else L.set k (L.getD k 0 - 1)
def rmvOk (L : List Int) (i : Int) : Bool := valid L && (decide (0 ≤ i) && decide (i < L.length) && isC L i.toNat)
def rmv (L : List Int) (i : Int) : List Int := if rmvOk L i then lessL L i.toNat else []
theorem isC_next {L : List Int} {k : Nat} (hk : k + 1 < L.length) (h : isC L k = true) : L.getD (k + 1) 0 < L.getD k 0 := by
  unfold isC at h
  rw [decide_eq_false (by omega), Bool.false_or] at h
  exact of_decide_eq_true h
theorem valid_set_less {L : List Int} (hv : valid L = true) {k : Nat} (hk : k < L.length) (hc : isC L k = true) (h1 : L.getD k 0 - 1 ≠ 0) : valid (L.set k (L.getD k 0 - 1)) = true := by
  have hp := preS_of_valid hv
  have hb := valid_bd hv
  have hg : L.getD k 0 = L[k] := getD_lt hk
  apply valid_of_preS
  · intro j hj _
    rw [List.length_set] at hj
    have hpj := hp j hj hj
    have hpk := hp k hk hk
    by_cases hjk : k = j
    · subst hjk
      rw [List.getElem_set_self]
      refine ⟨by omega, by omega, fun h0 => ?_⟩
      rw [List.getElem_set_ne (by omega)]
      have := hpk.2.2 h0
      omega
    · rw [List.getElem_set_ne hjk]
      refine ⟨hpj.1, hpj.2.1, fun h0 => ?_⟩
      by_cases hj1 : k = j - 1
      · subst hj1
        rw [List.getElem_set_self]
        have hn := isC_next (L := L) (k := j - 1) (by omega) hc
        rw [getD_lt (by omega), getD_lt (by omega)] at hn
        have e : L[j - 1 + 1]'(by omega) = L[j] := by congr 1; omega
        rw [e] at hn
        omega
      · rw [List.getElem_set_ne hj1]
        exact hpj.2.2 h0
  · rw [sumL_set _ _ hk]; omega
theorem less_last {L : List Int} (hv : valid L = true) {k : Nat} (hk : k < L.length) (hc : isC L k = true) (h1 : L.getD k 0 - 1 = 0) : k + 1 = L.length := by
  rcases Nat.lt_or_ge (k + 1) L.length with h | h
  · have := isC_next h hc
    have := getD_pos hv h
    omega
  · omega
theorem valid_less {L : List Int} (hv : valid L = true) {k : Nat} (hk : k < L.length) (hc : isC L k = true) : valid (lessL L k) = true := by
  unfold lessL
  split
  · rename_i h1
    rw [List.take_set_of_le (Nat.le_refl _)]
    exact valid_take hv k
  · rename_i h1
    exact valid_set_less hv hk hc h1
theorem pad_ext {A B : List Int} (hA : A.length ≤ 16) (hB : B.length ≤ 16) (h : ∀ j, j < 16 → A.getD j 0 = B.getD j 0) : pad A = pad B := by
  apply List.ext_getElem
  · rw [pad_len hA, pad_len hB]
  · intro j h1 h2
    have e1 := pad_getD hA j
    have e2 := pad_getD hB j
    rw [getD_lt h1] at e1
    rw [getD_lt h2] at e2
    rw [e1, e2, h j (by rw [pad_len hA] at h1; omega)]
theorem getD_set (L : List Int) (k j : Nat) (hk : k < L.length) (x : Int) : (L.set k x).getD j 0 = if k = j then x else L.getD j 0 := by
  split
  · rename_i h
    subst h
    rw [getD_lt (by simpa using hk), List.getElem_set_self]
  · rename_i h
    rcases Nat.lt_or_ge j L.length with h1 | h1
    · rw [getD_lt (by simpa using h1), List.getElem_set_ne h, getD_lt h1]
    · rw [getD_ge (by simpa using h1), getD_ge h1]
theorem getD_take (L : List Int) (k j : Nat) : (L.take k).getD j 0 = if j < k then L.getD j 0 else 0 := by
  split
  · rename_i h
    rcases Nat.lt_or_ge j L.length with h1 | h1
    · rw [getD_lt (by simp; omega), getD_lt h1]; simp
    · rw [getD_ge (by simp; omega), getD_ge h1]
  · rename_i h
    rw [getD_ge (by simp; omega)]
theorem pad_setG {L : List Int} (hL : L.length ≤ 16) {k : Nat} (hk : k < 16) (x : Int) {M : List Int} (hM : M.length ≤ 16) (h : ∀ j, j < 16 → M.getD j 0 = if k = j then x else L.getD j 0) : (pad L).set k x = pad M := by
  apply List.ext_getElem
  · rw [List.length_set, pad_len hL, pad_len hM]
  · intro j h1 h2
    have e1 := getD_set (pad L) k j (by rw [pad_len hL]; exact hk) x
    have e2 := pad_getD hM j
    rw [getD_lt h1] at e1
    rw [getD_lt h2] at e2
    rw [e1, e2, h j (by rw [pad_len hM] at h2; omega), pad_getD hL]
theorem less_len (L : List Int) (k : Nat) : (lessL L k).length ≤ L.length := by
  unfold lessL
  split
  · rw [List.length_take, List.length_set]; omega
  · rw [List.length_set]; omega
theorem pad_less {L : List Int} (hv : valid L = true) {k : Nat} (hk : k < L.length) (hc : isC L k = true) : (pad L).set k (L.getD k 0 - 1) = pad (lessL L k) := by
  have hl := (valid_bd hv).2.2.2
  refine pad_setG hl (by omega) _ (Nat.le_trans (less_len L k) hl) fun j _ => ?_
  unfold lessL
  split
  · rename_i h1
    have := less_last hv hk hc h1
    rw [getD_take, getD_set _ _ _ hk]
    by_cases hjk : j < k
    · rw [if_pos hjk, if_neg (by omega)]
    · rw [if_neg hjk]
      split
      · omega
      · rw [getD_ge (by omega)]
  · rw [getD_set _ _ _ hk]
theorem rmv_len (L : List Int) (i : Int) : (rmv L i).length ≤ 16 := by
  unfold rmv
  split
  · rename_i h
    unfold rmvOk at h
    simp only [Bool.and_eq_true] at h
    exact Nat.le_trans (less_len L _) (valid_bd h.1).2.2.2
  · simp
/-- a cell more -/
def addL (L : List Int) (k : Nat) : List Int := if k = L.length then L ++ [1] else L.set k (L.getD k 0 + 1)
def addOk (L : List Int) (i : Int) : Bool := valid L && (decide (0 ≤ i) && decide (i ≤ L.length) && valid (addL L i.toNat))
def addC (L : List Int) (i : Int) : List Int := if addOk L i then addL L i.toNat else []
theorem addC_len (L : List Int) (i : Int) : (addC L i).length ≤ 16 := by
  unfold addC
  split
  · rename_i h
    unfold addOk at h
    simp only [Bool.and_eq_true] at h
    exact (valid_bd h.2.2).2.2.2
  · simp
theorem addL_len (L : List Int) (k : Nat) : (addL L k).length ≤ L.length + 1 := by
  unfold addL; split <;> simp
theorem addL_getD (L : List Int) {k : Nat} (hk : k ≤ L.length) (j : Nat) : (addL L k).getD j 0 = if k = j then L.getD k 0 + 1 else L.getD j 0 := by
  unfold addL
  split
  · rename_i h
    subst h
    split
    · rename_i h
      subst h
      rw [getD_lt (by simp), getD_ge (Nat.le_refl _)]
      simp
    · rename_i h
      rcases Nat.lt_or_ge j L.length with h1 | h1
      · rw [getD_lt (by simp; omega), getD_lt h1, List.getElem_append_left h1]
      · rw [getD_ge (by simp; omega), getD_ge h1]
  · rw [getD_set _ _ _ (by omega)]
theorem sumL_add (L : List Int) {k : Nat} (hk : k ≤ L.length) : sumL (addL L k) = sumL L + 1 := by
  unfold addL
  split
  · rw [sumL_append]; simp [sumL]
  · rw [sumL_set _ _ (by omega), getD_lt (by omega)]; omega
theorem valid_add {L : List Int} (hv : valid L = true) {k : Nat} (hk : k ≤ L.length) : valid (addL L k) = (decide (sumL L ≠ 16) && (decide (k = 0) || decide (L.getD k 0 + 1 ≤ L.getD (k - 1) 0))) := by
  have hp := preS_of_valid hv
  have hb := valid_bd hv
  have hs := sumL_add L hk
  apply Bool.eq_iff_iff.2
  simp only [Bool.and_eq_true, Bool.or_eq_true, decide_eq_true_eq]
  constructor
  · intro h
    have hb2 := valid_bd h
    refine ⟨by omega, ?_⟩
    by_cases h0 : k = 0
    · exact .inl h0
    · right
      have hkl : k < (addL L k).length := by unfold addL; split <;> simp <;> omega
      have := (preS_of_valid h k hkl hkl).2.2 (by omega)
      rw [← getD_lt hkl, ← getD_lt (by omega), addL_getD L hk, addL_getD L hk, if_pos rfl, if_neg (by omega)] at this
      exact this
  · rintro ⟨h1, h2⟩
    apply valid_of_preS
    · intro j hj _
      have hjl : j ≤ L.length := by have := addL_len L k; omega
      have e1 := addL_getD L hk j
      rw [getD_lt hj] at e1
      have hs16 := hb.2.1
      have hle : ∀ q, 0 ≤ L.getD q 0 ∧ L.getD q 0 ≤ 15 := by
        intro q
        rcases Nat.lt_or_ge q L.length with hq | hq
        · have a1 := hp q hq hq
          rw [getD_lt hq]
          have a2 := elem_le_sum (fun x hx => by obtain ⟨n, hn, e⟩ := List.mem_iff_getElem.1 hx; have := hp n hn hn; omega) hq
          omega
        · rw [getD_ge hq]; omega
      have hlek := hle k
      have hlej := hle j
      have hge : k ≠ j → 1 ≤ L.getD j 0 := by
        intro hne
        have : j < L.length := by
          by_cases hkl : k = L.length
          · omega
          · have : (addL L k).length = L.length := by unfold addL; rw [if_neg hkl]; simp
            omega
        exact getD_pos hv this
      refine ⟨by rw [e1]; split <;> omega, by rw [e1]; split <;> omega, fun h0 => ?_⟩
      have e2 := addL_getD L hk (j - 1)
      rw [getD_lt (by omega)] at e2
      rw [e1, e2]
      have hmono : L.getD j 0 ≤ L.getD (j - 1) 0 := by
        rcases Nat.lt_or_ge j L.length with hq | hq
        · rw [getD_lt hq, getD_lt (by omega)]
          exact (hp j hq hq).2.2 h0
        · rw [getD_ge hq]; exact (hle _).1
      by_cases hkj : k = j
      · subst hkj
        rw [if_pos rfl, if_neg (by omega)]
        omega
      · rw [if_neg hkj]
        split
        · rename_i hkj1
          subst hkj1
          omega
        · exact hmono
    · omega
theorem pad_add {L : List Int} (hl : L.length ≤ 16) {k : Nat} (hk : k ≤ L.length) (hk16 : k < 16) (hl2 : (addL L k).length ≤ 16) : (pad L).set k (L.getD k 0 + 1) = pad (addL L k) := pad_setG hl hk16 _ hl2 fun j _ => addL_getD L hk j
end NP
end Go.Proofs.Ythafbdpeignccaa
namespace Go.Proofs.Ythafbdpeignccaa
namespace NP
set_option linter.unusedVariables false
theorem add_less {L : List Int} (hv : valid L = true) {k : Nat} (hk : k < L.length) (hc : isC L k = true) : addL (lessL L k) k = L := by
  have hg : L.getD k 0 = L[k] := getD_lt hk
  unfold lessL
  split
  · rename_i h1
    have hlast := less_last hv hk hc h1
    rw [List.take_set_of_le (Nat.le_refl _)]
    unfold addL
    rw [if_pos (by simp; omega)]
    have e : L = L.take k ++ [L[k]] := by
      rw [← List.take_succ_eq_append_getElem hk, List.take_of_length_le (by omega)]
    rw [hg] at h1
    have h2 : L[k] = 1 := by omega
    rw [h2] at e
    exact e.symm
  · rename_i h1
    unfold addL
    rw [if_neg (by simp; omega), getD_set _ _ _ hk, if_pos rfl, hg]
    apply List.ext_getElem
    · simp
    · intro j h2 h3
      by_cases hj : k = j
      · subst hj
        rw [List.getElem_set_self]; omega
      · rw [List.getElem_set_ne hj, List.getElem_set_ne hj]
theorem less_sum {L : List Int} (hv : valid L = true) {k : Nat} (hk : k < L.length) (hc : isC L k = true) : sumL (lessL L k) = sumL L - 1 := by
  have h := sumL_add (lessL L k) (k := k) (by
    unfold lessL
    split
    · simp; omega
    · simp; omega)
  rw [add_less hv hk hc] at h
  omega
theorem less_len_ge {L : List Int} {k : Nat} (hk : k < L.length) : k ≤ (lessL L k).length := by
  unfold lessL
  split <;> simp <;> omega
/-- what a taken cell leaves takes a cell -/
theorem add_of_rmv {L : List Int} (hv : valid L = true) {k : Nat} (hk : k < L.length) (hc : isC L k = true) : addOk (lessL L k) k = true ∧ addC (lessL L k) k = L := by
  have h : addOk (lessL L k) k = true := by
    unfold addOk
    rw [valid_less hv hk hc, decide_eq_true (by omega : (0 : Int) ≤ (k : Int)), decide_eq_true (by have := less_len_ge hk; omega : (k : Int) ≤ ((lessL L k).length : Int)), Int.toNat_natCast, add_less hv hk hc, hv]
    rfl
  refine ⟨h, ?_⟩
  unfold addC
  rw [if_pos h, Int.toNat_natCast, add_less hv hk hc]
theorem addL_length (L : List Int) {k : Nat} (hk : k ≤ L.length) : k < (addL L k).length ∧ L.length ≤ (addL L k).length := by
  unfold addL
  split <;> simp <;> omega
theorem isC_add {L : List Int} (hv : valid L = true) {k : Nat} (hk : k ≤ L.length) (ha : valid (addL L k) = true) : isC (addL L k) k = true := by
  have hl := addL_length L hk
  unfold isC
  by_cases h1 : k + 1 = (addL L k).length
  · rw [decide_eq_true h1, Bool.true_or]
  · rw [decide_eq_false h1, Bool.false_or, addL_getD L hk, addL_getD L hk, if_pos rfl, if_neg (by omega)]
    apply decide_eq_true
    have : L.getD (k + 1) 0 ≤ L.getD k 0 := by
      rcases Nat.lt_or_ge (k + 1) L.length with h2 | h2
      · rw [getD_lt h2, getD_lt (by omega)]
        have := (preS_of_valid hv (k + 1) h2 h2).2.2 (by omega)
        simpa using this
      · rw [getD_ge h2]
        rcases Nat.lt_or_ge k L.length with h3 | h3
        · have := getD_pos hv h3; omega
        · rw [getD_ge h3]; exact Int.le_refl _
    omega
theorem less_add {L : List Int} (hv : valid L = true) {k : Nat} (hk : k ≤ L.length) : lessL (addL L k) k = L := by
  unfold lessL
  rw [addL_getD L hk, if_pos rfl]
  split
  · rename_i h1
    have h0 : k = L.length := by
      rcases Nat.lt_or_ge k L.length with h | h
      · have := getD_pos hv h; omega
      · omega
    rw [List.take_set_of_le (Nat.le_refl _)]
    unfold addL
    rw [if_pos h0, h0]
    simp
  · rename_i h1
    have h0 : k < L.length := by
      rcases Nat.lt_or_ge k L.length with h | h
      · exact h
      · rw [getD_ge h] at h1; omega
    unfold addL
    rw [if_neg (by omega), getD_lt h0]
    apply List.ext_getElem
    · simp
    · intro j h2 h3
      by_cases hj : k = j
      · subst hj
        rw [List.getElem_set_self]; omega
      · rw [List.getElem_set_ne hj, List.getElem_set_ne hj]
theorem rmv_of_add {L : List Int} (hv : valid L = true) {k : Nat} (hk : k ≤ L.length) (ha : valid (addL L k) = true) : rmvOk (addL L k) k = true ∧ rmv (addL L k) k = L := by
  have hl := addL_length L hk
  have h : rmvOk (addL L k) k = true := by
    unfold rmvOk
    rw [ha, decide_eq_true (by omega : (0 : Int) ≤ (k : Int)), decide_eq_true (by omega : (k : Int) < ((addL L k).length : Int)), Int.toNat_natCast, isC_add hv hk ha]
    rfl
  refine ⟨h, ?_⟩
  unfold rmv
  rw [if_pos h, Int.toNat_natCast, less_add hv hk]
end NP
end Go.Proofs.Ythafbdpeignccaa
namespace Go.Proofs.Ythafbdpeignccaa
namespace NP
set_option linter.unusedVariables false
def two (P Q : List Int) : Bool := valid P && valid Q && decide (sumL P + sumL Q ≤ 16)
def adp (P Q : List Int) : List Int := (List.range (max P.length Q.length)).map fun i => P.getD i 0 + Q.getD i 0
theorem adp_len (P Q : List Int) : (adp P Q).length = max P.length Q.length := by simp [adp]
theorem adp_getD (P Q : List Int) (i : Nat) : (adp P Q).getD i 0 = P.getD i 0 + Q.getD i 0 := by
  rcases Nat.lt_or_ge i (max P.length Q.length) with h | h
  · rw [getD_lt (by rw [adp_len]; exact h)]
    simp [adp]
  · rw [getD_ge (by rw [adp_len]; exact h), getD_ge (by omega), getD_ge (by omega)]
    rfl
theorem getD_nn {L : List Int} (hv : valid L = true) (i : Nat) : 0 ≤ L.getD i 0 ∧ L.getD i 0 ≤ 16 := by
  rcases Nat.lt_or_ge i L.length with h | h
  · rw [getD_lt h]
    have := preS_of_valid hv i h h
    omega
  · rw [getD_ge h]; omega
theorem getD_fall {L : List Int} (hv : valid L = true) (i : Nat) (h : 0 < i) : L.getD i 0 ≤ L.getD (i - 1) 0 := by
  rcases Nat.lt_or_ge i L.length with h1 | h1
  · rw [getD_lt h1, getD_lt (by omega)]
    exact (preS_of_valid hv i h1 h1).2.2 h
  · rw [getD_ge h1]; exact (getD_nn hv _).1
/-- the sum, by places -/
def sumTo (L : List Int) : Nat → Int
  | 0 => 0
  | n + 1 => sumTo L n + L.getD n 0
theorem sumTo_take (L : List Int) (n : Nat) : sumTo L n = sumL (L.take n) := by
  induction n with
  | zero => rfl
  | succ n ih =>
    rw [sumTo, ih]
    rcases Nat.lt_or_ge n L.length with h | h
    · rw [sumL_take_succ L n h, getD_lt h]
    · rw [getD_ge h, List.take_of_length_le h, List.take_of_length_le (by omega)]; omega
theorem sumTo_all (L : List Int) (n : Nat) (h : L.length ≤ n) : sumTo L n = sumL L := by rw [sumTo_take, List.take_of_length_le h]
theorem sumTo_add {A P Q : List Int} (h : ∀ i, A.getD i 0 = P.getD i 0 + Q.getD i 0) (n : Nat) : sumTo A n = sumTo P n + sumTo Q n := by
  induction n with
  | zero => rfl
  | succ n ih => rw [sumTo, sumTo, sumTo, ih, h]; omega
theorem adp_sum (P Q : List Int) : sumL (adp P Q) = sumL P + sumL Q := by
  rw [← sumTo_all (adp P Q) (max P.length Q.length) (by rw [adp_len]; exact Nat.le_refl _), sumTo_add (adp_getD P Q), sumTo_all P _ (Nat.le_max_left _ _), sumTo_all Q _ (Nat.le_max_right _ _)]
theorem two_out {P Q : List Int} (h : two P Q = true) : valid P = true ∧ valid Q = true ∧ sumL P + sumL Q ≤ 16 := by
  unfold two at h
  simp only [Bool.and_eq_true, decide_eq_true_eq] at h
  exact ⟨h.1.1, h.1.2, h.2⟩
theorem valid_adp {P Q : List Int} (h : two P Q = true) : valid (adp P Q) = true := by
  obtain ⟨hp, hq, hs⟩ := two_out h
  have hbp := valid_bd hp
  have hbq := valid_bd hq
  apply valid_of_preS
  · intro j hj _
    have e := adp_getD P Q j
    rw [getD_lt hj] at e
    have h1 := getD_nn hp j
    have h2 := getD_nn hq j
    rw [adp_len] at hj
    have h3 : 1 ≤ P.getD j 0 + Q.getD j 0 := by
      rcases Nat.lt_or_ge j P.length with h | h
      · have := getD_pos hp h; omega
      · have := getD_pos hq (by omega : j < Q.length); omega
    have h4 : P.getD j 0 + Q.getD j 0 ≤ 16 := by
      have a1 : P.getD j 0 ≤ sumL P := by
        rcases Nat.lt_or_ge j P.length with h | h
        · rw [getD_lt h]
          exact (elem_le_sum (fun x hx => by obtain ⟨n, hn, e⟩ := List.mem_iff_getElem.1 hx; have := preS_of_valid hp n hn hn; omega) h).1
        · rw [getD_ge h]; omega
      have a2 : Q.getD j 0 ≤ sumL Q := by
        rcases Nat.lt_or_ge j Q.length with h | h
        · rw [getD_lt h]
          exact (elem_le_sum (fun x hx => by obtain ⟨n, hn, e⟩ := List.mem_iff_getElem.1 hx; have := preS_of_valid hq n hn hn; omega) h).1
        · rw [getD_ge h]; omega
      omega
    refine ⟨by omega, by omega, fun h0 => ?_⟩
    have e2 := adp_getD P Q (j - 1)
    rw [getD_lt (by rw [adp_len]; omega)] at e2
    have := getD_fall hp j h0
    have := getD_fall hq j h0
    omega
  · rw [adp_sum]; exact hs
/-- what stands in the program's diagram when i places have been added to -/
def amid (P Q : List Int) (i : Nat) : List Int := (List.range 16).map fun j => if j < i then P.getD j 0 + Q.getD j 0 else P.getD j 0
theorem amid_len (P Q : List Int) (i : Nat) : (amid P Q i).length = 16 := by simp [amid]
theorem amid_get (P Q : List Int) (i j : Nat) (h : j < (amid P Q i).length) : (amid P Q i)[j] = if j < i then P.getD j 0 + Q.getD j 0 else P.getD j 0 := by simp [amid]
theorem amid_zero {P : List Int} (hp : P.length ≤ 16) (Q : List Int) : amid P Q 0 = pad P := by
  apply List.ext_getElem
  · rw [amid_len, pad_len hp]
  · intro j h1 h2
    rw [amid_get, if_neg (by omega), ← pad_getD hp, getD_lt h2]
theorem amid_set (P Q : List Int) (i : Nat) : (amid P Q i).set i (P.getD i 0 + Q.getD i 0) = amid P Q (i + 1) := by
  apply List.ext_getElem
  · rw [List.length_set, amid_len, amid_len]
  · intro j h1 h2
    by_cases hj : i = j
    · subst hj
      rw [List.getElem_set_self, amid_get, if_pos (by omega)]
    · rw [List.getElem_set_ne hj, amid_get, amid_get]
      split <;> split <;> first | rfl | omega
theorem amid_end {P Q : List Int} (h : two P Q = true) : amid P Q 16 = pad (adp P Q) := by
  have hv := valid_adp h
  have hl := (valid_bd hv).2.2.2
  apply List.ext_getElem
  · rw [amid_len, pad_len hl]
  · intro j h1 h2
    rw [amid_get, if_pos (by rw [amid_len] at h1; exact h1)]
    have e := pad_getD hl j
    rw [getD_lt h2, adp_getD] at e
    exact e.symm
def adpF (P Q : List Int) : List Int := if two P Q then adp P Q else []
theorem adpF_yes {P Q : List Int} (h : two P Q = true) : adpF P Q = adp P Q := by simp [adpF, h]
theorem adpF_no {P Q : List Int} (h : two P Q = false) : adpF P Q = [] := by simp [adpF, h]
theorem adpF_len (P Q : List Int) : (adpF P Q).length ≤ 16 := by
  unfold adpF
  split
  · rename_i h
    exact (valid_bd (valid_adp h)).2.2.2
  · simp
end NP
end Go.Proofs.Ythafbdpeignccaa
namespace Go.Proofs.Ythafbdpeignccaa
namespace NP
set_option linter.unusedVariables false
/-- the numbers times how often they come, up to n -/
def wti (L : List Int) : Nat → Int
  | 0 => 0
  | n + 1 => wti L n + ((n : Int) + 1) * eqc ((n : Int) + 1) L
def ctim (L : List Int) : Nat → Int
  | 0 => 0
  | n + 1 => ctim L n + eqc ((n : Int) + 1) L
theorem wti_nil (n : Nat) : wti [] n = 0 := by
  induction n with
  | zero => rfl
  | succ n ih => simp [wti, ih, eqc]
theorem ctim_nil (n : Nat) : ctim [] n = 0 := by
  induction n with
  | zero => rfl
  | succ n ih => simp [ctim, ih, eqc]
theorem wti_cons (x : Int) (r : List Int) (n : Nat) : wti (x :: r) n = wti r n + (if 1 ≤ x ∧ x ≤ n then x else 0) := by
  induction n with
  | zero => simp [wti]; omega
  | succ n ih =>
    simp only [wti, ih, eqc]
    by_cases hx : x = (n : Int) + 1
    · subst hx
      rw [if_pos rfl, if_neg (by omega), if_pos (by omega), Int.mul_add]
      omega
    · rw [if_neg hx, Int.zero_add]
      split <;> split <;> omega
theorem ctim_cons (x : Int) (r : List Int) (n : Nat) : ctim (x :: r) n = ctim r n + (if 1 ≤ x ∧ x ≤ n then 1 else 0) := by
  induction n with
  | zero => simp [ctim]; omega
  | succ n ih =>
    simp only [ctim, ih, eqc]
    by_cases hx : x = (n : Int) + 1
    · subst hx
      rw [if_pos rfl, if_neg (by omega), if_pos (by omega)]
      omega
    · rw [if_neg hx, Int.zero_add]
      split <;> split <;> omega
theorem wti_sum (L : List Int) (n : Nat) (h : ∀ x ∈ L, 1 ≤ x ∧ x ≤ n) : wti L n = sumL L := by
  induction L with
  | nil => rw [wti_nil]; rfl
  | cons x r ih =>
    rw [wti_cons, ih (fun y hy => h y (by simp [hy])), if_pos (h x (by simp))]
    simp [sumL]; omega
theorem ctim_len (L : List Int) (n : Nat) (h : ∀ x ∈ L, 1 ≤ x ∧ x ≤ n) : ctim L n = L.length := by
  induction L with
  | nil => rw [ctim_nil]; rfl
  | cons x r ih =>
    rw [ctim_cons, ih (fun y hy => h y (by simp [hy])), if_pos (h x (by simp))]
    simp
theorem sum_tim (L : List Int) (n : Nat) : sumL ((List.range n).map fun (j : Nat) => eqc ((j : Int) + 1) L) = ctim L n := by
  induction n with
  | zero => rfl
  | succ n ih => rw [List.range_succ, List.map_append, sumL_append, ih]; simp [ctim, sumL]
theorem valid_mem {L : List Int} (h : valid L = true) : ∀ x ∈ L, 1 ≤ x ∧ x ≤ (((L.headD 0).toNat : Nat) : Int) := by
  intro x hx
  have hg := head_ge h x hx
  obtain ⟨n, hn, e⟩ := List.mem_iff_getElem.1 hx
  have := preS_of_valid h n hn hn
  omega
theorem tim_sum {L : List Int} (h : valid L = true) : sumL (tim L) = L.length := by
  unfold tim
  rw [sum_tim]
  exact ctim_len L _ (valid_mem h)
theorem eqc_mul_bd (L : List Int) (n : Nat) (hn : n ≤ 16) (hl : L.length ≤ 16) : 0 ≤ ((n : Int) + 1) * eqc ((n : Int) + 1) L ∧ ((n : Int) + 1) * eqc ((n : Int) + 1) L ≤ 272 := by
  have h := eqc_bd ((n : Int) + 1) L
  generalize eqc ((n : Int) + 1) L = y at h ⊢
  have h1 : 0 ≤ ((n : Int) + 1) * y := Int.mul_nonneg (by omega) h.1
  have h2 : ((n : Int) + 1) * y ≤ 17 * 16 := Int.mul_le_mul (by omega) (by omega) h.1 (by omega)
  omega
theorem wti_bd (L : List Int) (hl : L.length ≤ 16) (n : Nat) (hn : n ≤ 17) : 0 ≤ wti L n ∧ wti L n ≤ 272 * n := by
  induction n with
  | zero => simp [wti]
  | succ n ih =>
    have := ih (by omega)
    have := eqc_mul_bd L n (by omega) hl
    simp only [wti]
    omega
theorem tim_conj {L : List Int} (h : valid L = true) (k : Nat) (hk : k < (L.headD 0).toNat) : eqc ((k : Int) + 1) L = cnt ((k : Int) + 1) L - (if k + 1 < (L.headD 0).toNat then cnt ((k : Int) + 2) L else 0) := by
  rw [eqc_cnt]
  split
  · congr 1
  · rename_i h1
    have e : cnt ((k : Int) + 1 + 1) L = 0 := by
      apply cnt_none
      intro x hx
      have := valid_mem h x hx
      omega
    omega
/-- how many numbers come -/
def nz (L : List Int) : Nat → Nat
  | 0 => 0
  | n + 1 => nz L n + (if 0 < eqc ((n : Int) + 1) L then 1 else 0)
theorem nz_nil (n : Nat) : nz [] n = 0 := by
  induction n with
  | zero => rfl
  | succ n ih => simp [nz, ih, eqc]
theorem nz_le (L : List Int) (n : Nat) : nz L n ≤ n := by
  induction n with
  | zero => simp [nz]
  | succ n ih => simp only [nz]; split <;> omega
theorem nz_cons (x : Int) (r : List Int) (n : Nat) : nz (x :: r) n = nz r n + (if 1 ≤ x ∧ x ≤ n ∧ eqc x r ≤ 0 then 1 else 0) := by
  induction n with
  | zero => simp [nz]; omega
  | succ n ih =>
    have e : eqc ((n : Int) + 1) (x :: r) = (if x = (n : Int) + 1 then 1 else 0) + eqc ((n : Int) + 1) r := rfl
    simp only [nz, ih]
    by_cases hx : x = (n : Int) + 1
    · subst hx
      have hb := (eqc_bd ((n : Int) + 1) r).1
      rw [if_pos rfl] at e
      split <;> split <;> split <;> split <;> omega
    · rw [if_neg hx, Int.zero_add] at e
      rw [e]
      split <;> split <;> split <;> omega
theorem fl_len_shift (p : Nat → Bool) (n : Nat) : (fl p (n + 1)).length = (if p 0 then 1 else 0) + (fl (fun i => p (i + 1)) n).length := by
  induction n with
  | zero => rw [fl_succ]; simp [fl]; split <;> simp_all
  | succ n ih =>
    rw [fl_succ, List.length_append, ih, fl_succ, List.length_append]
    split <;> split <;> simp_all <;> omega
theorem isC_tail (x : Int) (r : List Int) (i : Nat) : isC (x :: r) (i + 1) = isC r i := by
  unfold isC
  simp
theorem eqc_none (x : Int) (r : List Int) (h : ∀ y ∈ r, y < x) : eqc x r = 0 := by
  induction r with
  | nil => rfl
  | cons y t ih =>
    have := h y (by simp)
    simp only [eqc]
    rw [if_neg (by omega), ih (fun z hz => h z (by simp [hz]))]
    rfl
/-- falls: each at most the one ahead -/
def mono : List Int → Prop
  | [] => True
  | x :: r => (∀ y ∈ r, y ≤ x) ∧ mono r
theorem crn_nz (L : List Int) (hm : mono L) (n : Nat) (h : ∀ x ∈ L, 1 ≤ x ∧ x ≤ n) : (crn L).length = nz L n := by
  induction L with
  | nil => rw [nz_nil]; rfl
  | cons x r ih =>
    have ih' := ih hm.2 (fun y hy => h y (by simp [hy]))
    have hx := h x (by simp)
    rw [nz_cons, ← ih']
    unfold crn
    rw [crnTo_fl, crnTo_fl, List.length_cons, fl_len_shift, fl_congr _ (isC r) _ (fun i _ => isC_tail x r i)]
    rw [Nat.add_comm]
    congr 1
    cases r with
    | nil => simp [isC, eqc]; omega
    | cons y t =>
      have e : isC (x :: y :: t) 0 = decide (y < x) := by unfold isC; simp
      rw [e]
      have hy := hm.1 y (by simp)
      by_cases hyx : y < x
      · rw [decide_eq_true hyx]
        have e2 : eqc x (y :: t) = 0 := eqc_none x _ fun z hz => by
          rcases List.mem_cons.1 hz with rfl | hz
          · exact hyx
          · have := hm.2.1 z hz; omega
        rw [e2, if_pos rfl, if_pos (by omega)]
      · have hyx2 : y = x := by omega
        subst hyx2
        have := (eqc_bd y t).1
        rw [decide_eq_false hyx, if_neg (by simp), if_neg (by simp [eqc]; omega)]
theorem mono_of {L : List Int} (h : ∀ i (hi : i + 1 < L.length), L[i + 1] ≤ L[i]) : mono L := by
  induction L with
  | nil => trivial
  | cons x r ih =>
    have hr : mono r := ih fun i hi => by have := h (i + 1) (by simpa using hi); simpa using this
    refine ⟨fun y hy => ?_, hr⟩
    cases r with
    | nil => simp at hy
    | cons z t =>
      have h0 := h 0 (by simp)
      simp at h0
      rcases List.mem_cons.1 hy with rfl | hy
      · exact h0
      · exact Int.le_trans (hr.1 y hy) h0
theorem mono_valid {L : List Int} (h : valid L = true) : mono L := mono_of fun i hi => by
  have := (preS_of_valid h (i + 1) hi hi).2.2 (by omega)
  simpa using this
theorem crn_len_nz {L : List Int} (h : valid L = true) : (crn L).length = nz L (L.headD 0).toNat := crn_nz L (mono_valid h) _ (valid_mem h)
theorem nz_fl (L : List Int) (n : Nat) : (fl (fun i => decide (0 < eqc ((i : Int) + 1) L)) n).length = nz L n := by
  induction n with
  | zero => rfl
  | succ n ih =>
    rw [fl_succ, List.length_append, ih]
    simp only [nz]
    split <;> split <;> simp_all
theorem crn_conj_nz {L : List Int} (h : valid L = true) : (crn (conj L)).length = nz L (L.headD 0).toNat := by
  unfold crn
  rw [crnTo_fl, conj_len, fl_congr _ (fun i => decide (0 < eqc ((i : Int) + 1) L)) _ (fun i hi => ?_), nz_fl]
  have hi1 : i < (conj L).length := by rw [conj_len]; exact hi
  unfold isC
  rw [getD_lt hi1, conj_get, eqc_cnt]
  by_cases h1 : i + 1 < (conj L).length
  · rw [decide_eq_false (by omega), Bool.false_or, getD_lt h1, conj_get]
    have e : (((i + 1 : Nat) : Int) + 1) = (i : Int) + 1 + 1 := by omega
    rw [e]
    apply decide_eq_decide.2
    omega
  · rw [decide_eq_true (by omega), Bool.true_or]
    have e : cnt ((i : Int) + 1 + 1) L = 0 := by
      apply cnt_none
      intro x hx
      have := valid_mem h x hx
      rw [conj_len] at h1
      omega
    have e1 : 0 < cnt ((i : Int) + 1) L := by
      cases L with
      | nil => simp at hi
      | cons x r =>
        have := (cnt_bd ((i : Int) + 1) r).1
        simp only [cnt]
        simp only [List.headD_cons] at hi
        rw [if_pos (by omega)]
        omega
    rw [e, eq_comm, decide_eq_true_eq]
    omega
theorem fl_asc (p : Nat → Bool) (n : Nat) : ∀ i (h : i + 1 < (fl p n).length), (fl p n)[i] < (fl p n)[i + 1] := by
  have hp : (fl p n).Pairwise (· < ·) := by
    unfold fl
    rw [List.pairwise_map]
    exact (List.Pairwise.filter _ List.pairwise_lt_range).imp fun h => by simpa using h
  intro i h
  exact List.pairwise_iff_getElem.1 hp i (i + 1) (by omega) h (by omega)
theorem asc_of_eq {X Y : List Int} (e : X = Y) (h : ∀ i (hi : i + 1 < Y.length), Y[i] < Y[i + 1]) : ∀ i (hi : i + 1 < X.length), X[i] < X[i + 1] := by subst e; exact h
theorem get_of_eq {X Y : List Int} {f : Nat → Int} (e : X = Y) (h : ∀ k (hk : k < Y.length), Y[k] = f k) : ∀ k (hk : k < X.length), X[k] = f k := by subst e; exact h
end NP
end Go.Proofs.Ythafbdpeignccaa
namespace Go.Proofs.Ythafbdpeignccaa
namespace NP
set_option linter.unusedVariables false
theorem eqc_cons (k x : Int) (r : List Int) : eqc k (x :: r) = (if x = k then 1 else 0) + eqc k r := rfl
theorem eqc_mem {k : Int} {L : List Int} (h : 0 < eqc k L) : k ∈ L := by
  induction L with
  | nil => simp [eqc] at h
  | cons x r ih =>
    rw [eqc_cons] at h
    by_cases hx : x = k
    · subst hx; simp
    · rw [if_neg hx] at h
      exact List.mem_cons_of_mem _ (ih (by omega))
theorem eqc_pos {k : Int} {L : List Int} (h : k ∈ L) : 0 < eqc k L := by
  induction L with
  | nil => simp at h
  | cons x r ih =>
    rw [eqc_cons]
    have := (eqc_bd k r).1
    rcases List.mem_cons.1 h with rfl | h
    · rw [if_pos rfl]; omega
    · have := ih h
      split <;> omega
theorem mono_eq {A B : List Int} (hA : mono A) (hB : mono B) (h : ∀ k, eqc k A = eqc k B) : A = B := by
  induction A generalizing B with
  | nil =>
    cases B with
    | nil => rfl
    | cons y t =>
      have h1 := h y
      have h2 := eqc_pos (k := y) (L := y :: t) (by simp)
      rw [← h1] at h2
      simp [eqc] at h2
  | cons x r ih =>
    cases B with
    | nil =>
      have h1 := h x
      have h2 := eqc_pos (k := x) (L := x :: r) (by simp)
      rw [h1] at h2
      simp [eqc] at h2
    | cons y t =>
      have hxy : x = y := by
        have h1 := eqc_mem (k := x) (L := y :: t) (by rw [← h x]; exact eqc_pos (by simp))
        have h2 := eqc_mem (k := y) (L := x :: r) (by rw [h y]; exact eqc_pos (by simp))
        have h3 : x ≤ y := by
          rcases List.mem_cons.1 h1 with rfl | h1
          · exact Int.le_refl _
          · exact hB.1 x h1
        have h4 : y ≤ x := by
          rcases List.mem_cons.1 h2 with rfl | h2
          · exact Int.le_refl _
          · exact hA.1 y h2
        omega
      subst hxy
      rw [ih hA.2 hB.2 fun k => by have := h k; rw [eqc_cons, eqc_cons] at this; omega]
theorem mono_append {A B : List Int} (hA : mono A) (hB : mono B) (h : ∀ x ∈ A, ∀ y ∈ B, y ≤ x) : mono (A ++ B) := by
  induction A with
  | nil => exact hB
  | cons x r ih =>
    refine ⟨fun y hy => ?_, ih hA.2 fun z hz => h z (by simp [hz])⟩
    rcases List.mem_append.1 hy with hy | hy
    · exact hA.1 y hy
    · exact h x (by simp) y hy
theorem mono_one (x : Int) : mono [x] := ⟨fun y hy => by simp at hy, trivial⟩
theorem mono_replicate (n : Nat) (x : Int) : mono (List.replicate n x) := by
  induction n with
  | zero => trivial
  | succ n ih => exact ⟨fun y hy => by have := List.eq_of_mem_replicate hy; omega, ih⟩
theorem eqc_replicate (k : Int) (n : Nat) (x : Int) : eqc k (List.replicate n x) = if x = k then (n : Int) else 0 := by
  induction n with
  | zero => simp [eqc]
  | succ n ih =>
    rw [List.replicate_succ, eqc_cons, ih]
    split <;> omega
/-- the two-way merge of the program, n steps: what has been laid, how many of the first, of the second -/
def um (P Q : Nat → Int) : Nat → List Int × Nat × Nat
  | 0 => ([], 0, 0)
  | n + 1 =>
    let s := um P Q n
    if Q s.2.2 ≤ P s.2.1 then (s.1 ++ [P s.2.1], s.2.1 + 1, s.2.2) else (s.1 ++ [Q s.2.2], s.2.1, s.2.2 + 1)
theorem um_step_yes (P Q : Nat → Int) (n : Nat) (h : Q (um P Q n).2.2 ≤ P (um P Q n).2.1) : um P Q (n + 1) = ((um P Q n).1 ++ [P (um P Q n).2.1], (um P Q n).2.1 + 1, (um P Q n).2.2) := by
  simp only [um]; rw [if_pos h]
theorem um_step_no (P Q : Nat → Int) (n : Nat) (h : ¬ Q (um P Q n).2.2 ≤ P (um P Q n).2.1) : um P Q (n + 1) = ((um P Q n).1 ++ [Q (um P Q n).2.2], (um P Q n).2.1, (um P Q n).2.2 + 1) := by
  simp only [um]; rw [if_neg h]
theorem um_count (P Q : Nat → Int) (n : Nat) : (um P Q n).2.1 + (um P Q n).2.2 = n ∧ (um P Q n).1.length = n := by
  induction n with
  | zero => exact ⟨rfl, rfl⟩
  | succ n ih =>
    by_cases h : Q (um P Q n).2.2 ≤ P (um P Q n).2.1
    · rw [um_step_yes P Q n h]
      simp only [List.length_append, List.length_cons, List.length_nil]
      omega
    · rw [um_step_no P Q n h]
      simp only [List.length_append, List.length_cons, List.length_nil]
      omega
def pre (P : Nat → Int) (i : Nat) : List Int := (List.range i).map P
theorem pre_succ (P : Nat → Int) (i : Nat) : pre P (i + 1) = pre P i ++ [P i] := by unfold pre; rw [List.range_succ, List.map_append]; rfl
theorem um_inv (P Q : Nat → Int) (hP : ∀ i, P (i + 1) ≤ P i) (hQ : ∀ i, Q (i + 1) ≤ Q i) (n : Nat) :
    mono (um P Q n).1 ∧ (∀ y ∈ (um P Q n).1, P (um P Q n).2.1 ≤ y ∧ Q (um P Q n).2.2 ≤ y) ∧ ∀ v, eqc v (um P Q n).1 = eqc v (pre P (um P Q n).2.1) + eqc v (pre Q (um P Q n).2.2) := by
  induction n with
  | zero => exact ⟨trivial, fun y hy => by simp [um] at hy, fun v => rfl⟩
  | succ n ih =>
    obtain ⟨h1, h2, h3⟩ := ih
    by_cases h : Q (um P Q n).2.2 ≤ P (um P Q n).2.1
    · rw [um_step_yes P Q n h]
      refine ⟨mono_append h1 (mono_one _) fun x hx y hy => ?_, fun y hy => ?_, fun v => ?_⟩
      · rw [List.mem_singleton] at hy
        subst hy
        exact (h2 x hx).1
      · have hp := hP (um P Q n).2.1
        rcases List.mem_append.1 hy with hy | hy
        · have := h2 y hy
          exact ⟨Int.le_trans hp this.1, this.2⟩
        · rw [List.mem_singleton] at hy
          subst hy
          exact ⟨hp, h⟩
      · show eqc v _ = eqc v (pre P ((um P Q n).2.1 + 1)) + eqc v (pre Q (um P Q n).2.2)
        rw [pre_succ, eqc_append, eqc_append, h3]
        omega
    · rw [um_step_no P Q n h]
      refine ⟨mono_append h1 (mono_one _) fun x hx y hy => ?_, fun y hy => ?_, fun v => ?_⟩
      · rw [List.mem_singleton] at hy
        subst hy
        exact (h2 x hx).2
      · have hp := hQ (um P Q n).2.2
        rcases List.mem_append.1 hy with hy | hy
        · have := h2 y hy
          exact ⟨this.1, Int.le_trans hp this.2⟩
        · rw [List.mem_singleton] at hy
          subst hy
          exact ⟨Int.le_of_lt (Int.not_le.1 h), hp⟩
      · show eqc v _ = eqc v (pre P (um P Q n).2.1) + eqc v (pre Q ((um P Q n).2.2 + 1))
        rw [pre_succ, eqc_append, eqc_append, h3]
        omega
theorem pre_parts {L : List Int} (i : Nat) (h : L.length ≤ i) : pre (fun i => L.getD i 0) i = L ++ List.replicate (i - L.length) 0 := by
  apply List.ext_getElem
  · simp [pre]; omega
  · intro j h1 h2
    simp only [pre, List.getElem_map, List.getElem_range]
    rcases Nat.lt_or_ge j L.length with h3 | h3
    · rw [List.getElem_append_left h3, getD_lt h3]
    · rw [List.getElem_append_right h3, getD_ge h3]; simp
/-- all of both, the greatest first, behind them noughts -/
theorem um_end {P Q M : List Int} (h : two P Q = true) (hM : mono M) (hMe : ∀ k, eqc k M = eqc k P + eqc k Q) (hMl : M.length = P.length + Q.length) (hM1 : ∀ x ∈ M, 1 ≤ x) : (um (fun i => P.getD i 0) (fun i => Q.getD i 0) 16).1 = pad M := by
  obtain ⟨hp, hq, hs⟩ := two_out h
  have hbp := valid_bd hp
  have hbq := valid_bd hq
  have hfp : ∀ i, P.getD (i + 1) 0 ≤ P.getD i 0 := fun i => by have := getD_fall hp (i + 1) (by omega); simpa using this
  have hfq : ∀ i, Q.getD (i + 1) 0 ≤ Q.getD i 0 := fun i => by have := getD_fall hq (i + 1) (by omega); simpa using this
  obtain ⟨h1, h2, h3⟩ := um_inv (fun i => P.getD i 0) (fun i => Q.getD i 0) hfp hfq 16
  obtain ⟨h4, h5⟩ := um_count (fun i => P.getD i 0) (fun i => Q.getD i 0) 16
  generalize (um (fun i => P.getD i 0) (fun i => Q.getD i 0) 16).1 = U at *
  generalize (um (fun i => P.getD i 0) (fun i => Q.getD i 0) 16).2.1 = i at *
  generalize (um (fun i => P.getD i 0) (fun i => Q.getD i 0) 16).2.2 = k at *
  have noz : ∀ (hn : ∀ y ∈ U, 1 ≤ y), eqc 0 U = 0 := fun hn => by
    rcases Int.lt_or_le 0 (eqc 0 U) with h | h
    · have := hn 0 (eqc_mem h); omega
    · have := (eqc_bd 0 U).1; omega
  have zer : ∀ (L : List Int) (n : Nat), eqc 0 (pre (fun i => L.getD i 0) n) = 0 → n ≤ L.length := fun L n hz => by
    rcases Nat.lt_or_ge L.length n with h | h
    · rw [pre_parts n (by omega), eqc_append, eqc_replicate, if_pos rfl] at hz
      have := (eqc_bd 0 L).1
      omega
    · exact h
  have hi : P.length ≤ i := by
    rcases Nat.lt_or_ge i P.length with h | h
    · have hz := noz fun y hy => by have := (h2 y hy).1; have := getD_pos hp h; omega
      have h0 := h3 0
      rw [hz] at h0
      have a := (eqc_bd 0 (pre (fun i => P.getD i 0) i)).1
      have b := (eqc_bd 0 (pre (fun i => Q.getD i 0) k)).1
      have := zer Q k (by omega)
      omega
    · exact h
  have hk : Q.length ≤ k := by
    rcases Nat.lt_or_ge k Q.length with h | h
    · have hz := noz fun y hy => by have := (h2 y hy).2; have := getD_pos hq h; omega
      have h0 := h3 0
      rw [hz] at h0
      have a := (eqc_bd 0 (pre (fun i => P.getD i 0) i)).1
      have b := (eqc_bd 0 (pre (fun i => Q.getD i 0) k)).1
      have := zer P i (by omega)
      omega
    · exact h
  apply mono_eq h1
  · unfold pad
    refine mono_append hM (mono_replicate _ _) fun x hx y hy => ?_
    have := List.eq_of_mem_replicate hy
    have := hM1 x hx
    omega
  · intro v
    rw [h3, pre_parts i hi, pre_parts k hk]
    unfold pad
    rw [eqc_append, eqc_append, eqc_append, eqc_replicate, eqc_replicate, eqc_replicate, hMe]
    split <;> omega
end NP
end Go.Proofs.Ythafbdpeignccaa
