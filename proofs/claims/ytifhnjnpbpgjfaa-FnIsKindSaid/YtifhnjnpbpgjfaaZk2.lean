/-
  Words for memory: what is readable (Rd), what is the call's own (Own), append onto it. Walks: sum, validParts, ValidParts, SumOf of the model. Walks: the laws' own helpers on lists of numbers: copied (toIntS), compared (eqIntS, equalInts), marked, held. Words for lists of lists: readable (RdLL), the call's own (OwnLL). Walks: the laws' own helpers on lists of lists: compared (eqIntSS, equalLists). Mathematics: all parts with a sum, none greater than a number, the greater first. Walks: all parts listed (the model's list). Walks: all parts listed (the model's list), whole. Arrays in blocks: a block known whole (Blk), a whole array stored and loaded, an element by a variable index.
-/
import Derived.Test.YtifhnjnpbpgjfaaZk1
import Derived.WalkKit
import Derived.WalkSmall
import Derived.Handy
import Derived.Laws.CopyOwn
import Derived.Maps.AppendAt
import Derived.Deep.Draws
import Derived.Test.YtifhnjnpbpgjfaaProg
import Derived.Deep.QuietTactic
import Derived.BigQuiet
import Derived.Lib.Hide
import Derived.Deep.RegionHeld3
import Derived.Laws.Rows
namespace Go.Proofs.Ytifhnjnpbpgjfaa
open Go.RowKit

def Rd (w : World) (B : Nat) (a : Option Addr) (vs : List Value) : Prop :=
  vs ≠ [] → ∃ b o, a = some ⟨b, o, none⟩ ∧ b < B ∧ ∀ k v, vs[k]? = some v → w.cell? ⟨b, o + k, none⟩ = some v

theorem ret_i64 {a b : Int} (h : a = b) : Ending.returned (.int .i64 a) = .returned (.int .i64 b) := by rw [h]
theorem ret_bool {a b : Bool} (h : a = b) : Ending.returned (.bool a) = .returned (.bool b) := by rw [h]
abbrev ints (L : List Int) : List Value := L.map (Value.int .i64)

theorem Rd.at_ {w : World} {B : Nat} {a : Option Addr} {L : List Int} (h : Rd w B a (ints L)) {k : Nat} (hk : k < L.length) :
    ∃ b o, a = some ⟨b, o, none⟩ ∧ b < B ∧ w.cell? ⟨b, o + k, none⟩ = some (.int .i64 L[k]) := by
  obtain ⟨b, o, h1, h2, h3⟩ := h (by intro e; simp at e; subst e; simp at hk)
  exact ⟨b, o, h1, h2, h3 k _ (by simp [hk])⟩

theorem Rd.below {w w' : World} {B : Nat} {a : Option Addr} {vs : List Value} (h : Rd w B a vs) (hb : Below B w w') : Rd w' B a vs := fun hne => by
  obtain ⟨b, o, h1, h2, h3⟩ := h hne
  exact ⟨b, o, h1, h2, fun k v hv => (hb.cell (p := ⟨b, o + k, none⟩) h2).trans (h3 k v hv)⟩

theorem Rd.more {w : World} {B B' : Nat} {a : Option Addr} {vs : List Value} (h : Rd w B a vs) (hB : B ≤ B') : Rd w B' a vs := fun hne => by
  obtain ⟨b, o, h1, h2, h3⟩ := h hne
  exact ⟨b, o, h1, by omega, h3⟩

/-- nothing has turned but draws -/
def Dr (w w' : World) : Prop := ∃ n, w' = w.drewN n
theorem Dr.refl (w : World) : Dr w w := ⟨0, rfl⟩
theorem Dr.n (w : World) (n : Nat) : Dr w (w.drewN n) := ⟨n, rfl⟩
theorem Dr.trans {a b c : World} (h : Dr a b) (k : Dr b c) : Dr a c := by
  obtain ⟨n, rfl⟩ := h
  obtain ⟨m, rfl⟩ := k
  exact ⟨n + m, by rw [World.drewN_drewN]⟩
theorem Dr.drewN {a b : World} (h : Dr a b) (n : Nat) : Dr a (b.drewN n) := h.trans ⟨n, rfl⟩
theorem Dr.below {w w' : World} (h : Dr w w') (B : Nat) : Below B w w' := by
  obtain ⟨n, rfl⟩ := h
  exact ⟨rfl, rfl, rfl, Nat.le_refl _, fun _ _ => rfl⟩
theorem Dr.size {w w' : World} (h : Dr w w') : w'.heap.size = w.heap.size := by
  obtain ⟨n, rfl⟩ := h
  rfl
theorem Rd.dr {w w' : World} {B : Nat} {a : Option Addr} {vs : List Value} (h : Rd w B a vs) (hb : Dr w w') : Rd w' B a vs := h.below (hb.below B)

/-- a row of the call's own in a block from lo up to hi -/
structure Own (w : World) (lo hi : Nat) (e : TypeId) (v : Value) (vs : List Value) : Prop where
  row : w.ownsRow lo e 1 v vs.length vs
  lt : ∀ g, v.ownBlock = some g → g < hi
  le : hi ≤ w.heap.size

section
variable {w w' : World} {lo hi : Nat} {e : TypeId} {v : Value} {vs : List Value}

theorem ownsRow_keep {n : Nat} (h : w.ownsRow lo e 1 v n vs) (hk : ∀ g, v.ownBlock = some g → w'.heap[g]? = w.heap[g]?) : w'.ownsRow lo e 1 v n vs := by
  refine ⟨h.1, ?_⟩
  rcases h.2 with hn | ⟨g, cap, cur, rfl, hb, hg, rest⟩
  · exact .inl hn
  · exact .inr ⟨g, cap, cur, rfl, hb, (hk g rfl).trans hg, rest⟩

theorem Own.keep (h : Own w lo hi e v vs) (hs : w.heap.size ≤ w'.heap.size) (hk : ∀ g, v.ownBlock = some g → w'.heap[g]? = w.heap[g]?) : Own w' lo hi e v vs :=
  ⟨ownsRow_keep h.row hk, h.lt, Nat.le_trans h.le hs⟩
theorem Own.below (h : Own w lo hi e v vs) (hb : Below hi w w') : Own w' lo hi e v vs :=
  h.keep hb.size fun g hg => hb.block g (h.lt g hg)
theorem Own.alloc (h : Own w lo hi e v vs) (o : Obj) : Own (w.alloc o) lo hi e v vs :=
  h.keep (by simp) fun g hg => Below.heap_alloc w o g (Nat.lt_of_lt_of_le (h.lt g hg) h.le)
theorem Own.drew (h : Own w lo hi e v vs) : Own w.drew lo hi e v vs := ⟨h.row, h.lt, h.le⟩
theorem Own.drewN (h : Own w lo hi e v vs) (n : Nat) : Own (w.drewN n) lo hi e v vs := ⟨h.row, h.lt, h.le⟩
theorem Own.more (h : Own w lo hi e v vs) : Own w lo w.heap.size e v vs := ⟨h.row, fun g hg => Nat.lt_of_lt_of_le (h.lt g hg) h.le, Nat.le_refl _⟩
theorem Own.form (h : Own w lo hi e v vs) : ∃ a c, v = .slice a vs.length c := by
  rcases h.row.2 with ⟨h1, h2⟩ | ⟨g, cap, cur, h1, _⟩
  · exact ⟨none, 0, by rw [h1, h2]⟩
  · exact ⟨_, _, h1⟩
theorem Own.rd {a : Option Addr} {n c : Nat} (h : Own w lo hi e (.slice a n c) vs) : Rd w hi a vs := fun hne => by
  rcases h.row.2 with ⟨h1, h2⟩ | ⟨g, cap, cur, hv, _, hg, _, _, _, ht⟩
  · exact absurd (List.eq_nil_of_length_eq_zero h2) hne
  · injection hv with ha hn hc
    subst ha
    refine ⟨g, 0, rfl, h.lt g rfl, fun k v hk => ?_⟩
    rw [cell_of_row w g (0 + k) cur e (0, 0) hg, Nat.zero_add]
    rw [← ht, List.getElem?_take] at hk
    split at hk
    · simpa using hk
    · cases hk
theorem Own.nil (w : World) (lo : Nat) (e : TypeId) : Own w lo w.heap.size e (.slice none 0 0) [] :=
  ⟨World.ownsRow_nil w lo e 1, fun g hg => by simp [Value.ownBlock] at hg, Nat.le_refl _⟩
theorem Own.lower {lo' : Nat} (h : Own w lo hi e v vs) (hl : lo' ≤ lo) : Own w lo' hi e v vs :=
  ⟨⟨h.row.1, h.row.2.imp id fun ⟨g, cap, cur, h1, h2, h3⟩ => ⟨g, cap, cur, h1, Nat.le_trans hl h2, h3⟩⟩, h.lt, h.le⟩
theorem Own.len {a : Option Addr} {n c : Nat} (h : Own w lo hi e (.slice a n c) vs) : n = vs.length := by
  obtain ⟨a', c', hv⟩ := h.form
  injection hv
end

theorem Own.at_ {w : World} {lo hi : Nat} {e : TypeId} {v : Value} {vs : List Value} (h : Own w lo hi e v vs) {k : Nat} (hk : k < vs.length) :
    ∃ g c, v = .slice (some ⟨g, 0, none⟩) vs.length c ∧ lo ≤ g ∧ g < hi ∧ w.cell? ⟨g, k, none⟩ = some vs[k] ∧ w.frozen? ⟨g, k, none⟩ = false := by
  rcases h.row.2 with ⟨h1, h2⟩ | ⟨g, cap, cur, rfl, hb, hg, _, _, _, ht⟩
  · omega
  · refine ⟨g, cap, rfl, hb, h.lt g rfl, ?_, frozen_of_row w g k cur e hg⟩
    rw [cell_of_row w g k cur e (0, 0) hg]
    have h3 : vs[k]? = some vs[k] := List.getElem?_eq_getElem hk
    have h4 : (cur.toList.take (vs.length * 1))[k]? = some vs[k] := by rw [ht]; exact h3
    rw [List.getElem?_take] at h4
    split at h4
    · simpa using h4
    · cases h4
theorem Own.spot {w : World} {lo hi : Nat} {e : TypeId} {a : Option Addr} {n c : Nat} {vs : List Value} (h : Own w lo hi e (.slice a n c) vs) {k : Nat} (hk : k < vs.length) :
    ∃ g u, a = some ⟨g, 0, none⟩ ∧ lo ≤ g ∧ g < hi ∧ w.cell? ⟨g, k, none⟩ = some u ∧ w.frozen? ⟨g, k, none⟩ = false := by
  obtain ⟨g, c', h1, h2, h3, h4, h5⟩ := h.at_ hk
  injection h1 with h1 _ _
  exact ⟨g, _, h1, h2, h3, h4, h5⟩
theorem Own.set {w : World} {lo hi : Nat} {e : TypeId} {g n c : Nat} {vs : List Value} (h : Own w lo hi e (.slice (some ⟨g, 0, none⟩) n c) vs) (k : Nat) (u : Value) : Own (w.setCell ⟨g, k, none⟩ u) lo hi e (.slice (some ⟨g, 0, none⟩) n c) (vs.set k u) := by
  have hn := h.len
  subst hn
  have h1 := h.row.stored k u
  refine ⟨?_, h.lt, ?_⟩
  · rw [List.length_set]; exact h1.1
  · have := h.le; simpa [World.setCell] using this
theorem Own.off {w : World} {lo hi : Nat} {e : TypeId} {v : Value} {vs : List Value} (h : Own w lo hi e v vs) {p : Addr} (hp : ∀ g, v.ownBlock = some g → g ≠ p.block) (u : Value) : Own (w.setCell p u) lo hi e v vs :=
  h.keep (by simp [World.setCell]) fun g hg => Below.heap_setCell w p u g (hp g hg)
theorem Own.grown {w w' : World} {lo hi : Nat} {e : TypeId} {v : Value} {vs : List Value} {row : Option Nat} (h : Own w lo hi e v vs) (hg : w.grownBy w' row) (hr : v.ownBlock = none ∨ v.ownBlock ≠ row) : Own w' lo hi e v vs :=
  h.keep hg.size fun g hgv => hg.block g (Nat.lt_of_lt_of_le (h.lt g hgv) h.le) (by
    rcases hr with hr | hr
    · rw [hr] at hgv; cases hgv
    · rw [← hgv]; exact hr)
theorem Own.dr {w w' : World} {lo hi : Nat} {e : TypeId} {v : Value} {vs : List Value} (h : Own w lo hi e v vs) (hd : Dr w w') : Own w' lo hi e v vs := h.below (hd.below hi)

/-- append to a row of the call's own, out of whatever can be read -/
theorem run_append_o {P : Program} (w : World) (lo hi : Nat) (t ty e : TypeId) (i : TypeInfo) (z : Value) (bytes : Nat) (ht : P.underlying t = some (.slice e)) (hi0 : P.info? e = some i) (hz : i.zero = some z)
    (hsize : i.size = 1) (hby : i.bytes = bytes) (hzs : z.cells.size = 1) {v : Value} {vs : List Value} (hown : Own w lo hi e v vs)
    {B : Nat} {A : Option Addr} {m c : Nat} {news : List Value} (hr : Rd w B A news) (hm : m = news.length) (h1 : ∀ u ∈ news, u.oneCell' = true)
    (h63 : vs.length + m ≤ maxLen) (hbytes : (vs.length + m) * bytes ≤ 140737488355328) (hlo : lo ≤ w.heap.size) :
    ∃ v' w', (Builtin.append_ #[t, t] ty #[v, .slice A m c]).run P w = .ok v' w' ∧ Own w' lo w'.heap.size e v' (vs ++ news) ∧ w.grownBy w' v.ownBlock ∧ (v'.ownBlock = v.ownBlock ∨ v'.ownBlock = some w.heap.size) := by
  subst hm
  by_cases hn : news = []
  · subst hn
    refine ⟨v, w, ?_, by simpa using hown.more, World.grownBy.refl w _, .inl rfl⟩
    rcases hown.row.2 with ⟨rfl, h0⟩ | ⟨g, cap, cur, rfl, _, _, hnc, _⟩
    · simp [Builtin.append_, run_underlying ht, sizeOf, typeInfo, hi0, Builtin.lenOf, Builtin.firstCells]
      cases A <;> simp [loadCells, loadCellsFrom]
    · simp [Builtin.append_, run_underlying ht, sizeOf, typeInfo, hi0, Builtin.lenOf, Builtin.firstCells, hnc, storeCells]
      cases A <;> simp [loadCells, loadCellsFrom, storeCells]
  · obtain ⟨b, o, rfl, hb, hc⟩ := hr hn
    have hcells : ∀ j u, news[j]? = some u → w.cell? ((⟨b, o, none⟩ : Addr).add j) = some u := by
      intro j u hu
      rw [Addr.add_lit]
      exact hc j u hu
    obtain ⟨v', w', hrun, h2, h3, _, h5⟩ := run_append_own_at (P := P) w lo t ty e i z 1 bytes ht hi0 hz hsize hby hzs (by omega) v _ vs hown.row ⟨b, o, none⟩ news.length c news (by simp) hcells h1 h63 hbytes hlo
    refine ⟨v', w', hrun, ⟨by simpa using h2, fun g hg => (h2.lt g hg).2, Nat.le_refl _⟩, h3, h5⟩

theorem wpList_append_o {P : Program} (w : World) {ops : Array Oper} {rest : List Oper} {o : Oper} {a : Act} {Q : Exit → Act → World → Prop} (hgd : o.guard = none) (s x : Operand) (t : TypeId)
    (ho : o.op = .call { callee := .builtin .append, args := #[s, x], argTypes := #[t, t] })
    (lo hi : Nat) (e : TypeId) (i : TypeInfo) (z : Value) (bytes : Nat) (ht : P.underlying t = some (.slice e)) (hi0 : P.info? e = some i) (hz : i.zero = some z)
    (hsize : i.size = 1) (hby : i.bytes = bytes) (hzs : z.cells.size = 1) (v : Value) (vs : List Value) (hs : a.eval s = v) (hown : Own w lo hi e v vs)
    (B : Nat) (A : Option Addr) (m c : Nat) (news : List Value) (hx : a.eval x = .slice A m c) (hr : Rd w B A news) (hm : m = news.length) (h1 : ∀ u ∈ news, u.oneCell' = true)
    (h63 : vs.length + m ≤ maxLen) (hbytes : (vs.length + m) * bytes ≤ 140737488355328) (hlo : lo ≤ w.heap.size)
    (h : ∀ v' w', Own w' lo w'.heap.size e v' (vs ++ news) → w.grownBy w' v.ownBlock → (v'.ownBlock = v.ownBlock ∨ v'.ownBlock = some w.heap.size) → wpList P ops Q rest (a.put o.dst v') w') : wpList P ops Q (o :: rest) a w :=
  wpList_plain hgd fun _ hK => by
    obtain ⟨v', w', hrun, h2, h3, h4⟩ := run_append_o (P := P) w lo hi t o.type e i z bytes ht hi0 hz hsize hby hzs hown hr hm h1 h63 hbytes hlo
    unfold Oper.wp execOp
    simp only [ho, resolve, invoke, builtin, Sem.run_bind, Sem.run_pure, Result.andThen_ok, List.map_toArray, List.map_cons, List.map_nil, hs, hx]
    rw [hrun]
    exact hK _ _ (h v' w' h2 h3 h4)

theorem step_append_o {P : Program} (w : World) {ops : Array Oper} {o : Oper} {a : Act} {K : Act → World → Prop} {Q : Exit → Act → World → Prop} {E : Prop} (hgd : o.guard = none) (s x : Operand) (t : TypeId)
    (ho : o.op = .call { callee := .builtin .append, args := #[s, x], argTypes := #[t, t] })
    (lo hi : Nat) (e : TypeId) (i : TypeInfo) (z : Value) (bytes : Nat) (ht : P.underlying t = some (.slice e)) (hi0 : P.info? e = some i) (hz : i.zero = some z)
    (hsize : i.size = 1) (hby : i.bytes = bytes) (hzs : z.cells.size = 1) (v : Value) (vs : List Value) (hs : a.eval s = v) (hown : Own w lo hi e v vs)
    (B : Nat) (A : Option Addr) (m c : Nat) (news : List Value) (hx : a.eval x = .slice A m c) (hr : Rd w B A news) (hm : m = news.length) (h1 : ∀ u ∈ news, u.oneCell' = true)
    (h63 : vs.length + m ≤ maxLen) (hbytes : (vs.length + m) * bytes ≤ 140737488355328) (hlo : lo ≤ w.heap.size)
    (h : ∀ v' w', Own w' lo w'.heap.size e v' (vs ++ news) → w.grownBy w' v.ownBlock → (v'.ownBlock = v.ownBlock ∨ v'.ownBlock = some w.heap.size) → K (a.put o.dst v') w') :
    if Region.wanted o (yielded ops a.tmps) = true then Oper.wp P o a w K Q else E := by
  have hw : Region.wanted o (yielded ops a.tmps) = true := by simp [Region.wanted, hgd]
  rw [if_pos hw]
  obtain ⟨v', w', hrun, h2, h3, h4⟩ := run_append_o (P := P) w lo hi t o.type e i z bytes ht hi0 hz hsize hby hzs hown hr hm h1 h63 hbytes hlo
  unfold Oper.wp execOp
  simp only [ho, resolve, invoke, builtin, Sem.run_bind, Sem.run_pure, Result.andThen_ok, List.map_toArray, List.map_cons, List.map_nil, hs, hx]
  rw [hrun]
  exact h v' w' h2 h3 h4

/-- one new cell is readable -/
theorem Rd.one (w : World) (u : Value) (t : TypeId) : Rd (w.alloc (.cells #[u] t)) (w.heap.size + 1) (some ⟨w.heap.size, 0, none⟩) [u] := fun _ => by
  refine ⟨w.heap.size, 0, rfl, by omega, fun k v hk => ?_⟩
  match k, hk with
  | 0, hk => simp at hk; subst hk; simp

/-- an empty row that has just been laid -/
theorem Own.empty (w : World) (e : TypeId) : Own (w.alloc (.cells #[] e)) w.heap.size (w.heap.size + 1) e (.slice (some ⟨w.heap.size, 0, none⟩) 0 0) [] :=
  ⟨⟨rfl, .inr ⟨w.heap.size, 0, #[], rfl, Nat.le_refl _, heap_alloc_new w _, Nat.le_refl _, Nat.zero_le _, rfl, rfl⟩⟩, fun g hg => by simp [Value.ownBlock] at hg; omega, by simp⟩
/-- one element appended, as the walk does it: laid into a block of its own first -/
theorem below_push {B : Nat} {w0 w w1 : World} {o : Obj} {row : Option Nat} (hb : Below B w0 w) (hB : B ≤ w0.heap.size) (hg : (w.alloc o).grownBy w1 row) (hr : ∀ g, row = some g → B ≤ g) : Below B w0 w1 := by
  have h1 := Nat.le_trans hB hb.size
  exact (hb.alloc h1 o).grown hg (by simp; omega) hr
theorem Own.base {w : World} {lo hi : Nat} {e : TypeId} {v : Value} {vs : List Value} (h : Own w lo hi e v vs) : ∀ g, v.ownBlock = some g → lo ≤ g := fun g hg => (h.row.lt g hg).1

theorem Own.above {w w' : World} {lo hi lox hix : Nat} {e ex : TypeId} {v vx : Value} {vs vxs : List Value} (h : Own w lo hi e v vs) (hx : Own w lox hix ex vx vxs) (hg : w.grownBy w' vx.ownBlock) (hd : hix ≤ lo) : Own w' lo hi e v vs :=
  h.keep hg.size fun g hgv => hg.block g (Nat.lt_of_lt_of_le (h.lt g hgv) h.le) (fun e => by
    have h1 := hx.lt g e.symm
    have h2 := h.base g hgv
    omega)
theorem Own.belowMark {w w' : World} {lo hi : Nat} {e : TypeId} {v : Value} {vs : List Value} (h : Own w lo hi e v vs) (hlo : lo ≤ w.heap.size) (hg : w.grownBy w' v.ownBlock) : Below lo w w' :=
  (Below.refl lo w).grown hg hlo h.base

/-- a slice of numbers that came in -/
def IsRow (k : IntKind) (w : World) (a : Option Addr) (len cap : Nat) (zs : List Int) : Prop :=
  (a = none ∧ len = 0 ∧ cap = 0 ∧ zs = []) ∨
  ∃ x, a = some x ∧ len ≤ cap ∧ cap ≤ maxLen ∧ zs.length = cap ∧ (∀ i, i < zs.length → w.cell? (x.add i) = some (.int k (zs.getD i 0))) ∧ ∀ n ∈ zs, (Lit.int k n).wf = true
theorem IsRow.rd {k : IntKind} {w : World} {a : Option Addr} {len cap : Nat} {zs : List Int} (h : IsRow k w a len cap zs) :
    ∃ L : List Int, L.length = len ∧ Rd w w.heap.size a (L.map (Value.int k)) ∧ (∀ n ∈ L, (Lit.int k n).wf = true) ∧ len ≤ maxLen := by
  rcases h with ⟨rfl, rfl, rfl, rfl⟩ | ⟨x, rfl, hl, hm, hz, hc, hw⟩
  · exact ⟨[], rfl, fun hne => absurd rfl hne, by simp, Nat.zero_le _⟩
  · refine ⟨zs.take len, by simp; omega, fun hne => ?_, fun n hn => hw n (List.mem_of_mem_take hn), by omega⟩
    have h0 : 0 < zs.length := by
      rcases Nat.eq_zero_or_pos zs.length with h0 | h0
      · have := List.eq_nil_of_length_eq_zero h0; subst this; simp at hne
      · exact h0
    obtain ⟨b, o, spot⟩ := x
    have hc0 := hc 0 h0
    have hspot : spot = none := by simpa [Addr.add] using World.cell?_spot hc0
    subst hspot
    have hlt := World.block_lt_of_cell? _ _ hc0
    refine ⟨b, o, rfl, by simpa [Addr.add] using hlt, fun j v hv => ?_⟩
    have hj : j < len ∧ j < zs.length := by
      have := (List.getElem?_eq_some_iff.1 hv).1
      simp at this
      omega
    have h1 := hc j hj.2
    rw [Addr.add_lit] at h1
    rw [h1]
    simp [hj.1, hj.2] at hv
    simp [List.getD, hj.2, hv]

theorem IsRow.lc {k : IntKind} {w : World} {a : Option Addr} {len cap : Nat} {zs : List Int} (h : IsRow k w a len cap zs) : len ≤ cap := by
  rcases h with ⟨rfl, rfl, rfl, rfl⟩ | ⟨x, rfl, hl, _⟩
  · exact Nat.le_refl _
  · exact hl
/-- a part of what can be read -/
theorem Rd.take {w : World} {B : Nat} {a : Option Addr} {vs : List Value} (h : Rd w B a vs) (k : Nat) : Rd w B a (vs.take k) := fun hne => by
  obtain ⟨b, o, h1, h2, h3⟩ := h (by rintro rfl; simp at hne)
  refine ⟨b, o, h1, h2, fun j v hv => h3 j v ?_⟩
  rw [List.getElem?_take] at hv
  split at hv
  · exact hv
  · cases hv
theorem Rd.dropAt {w : World} {B b o : Nat} {vs : List Value} (h : Rd w B (some ⟨b, o, none⟩) vs) (k : Nat) : Rd w B (some ⟨b, o + k, none⟩) (vs.drop k) := fun hne => by
  obtain ⟨b', o', h1, h2, h3⟩ := h (by rintro rfl; simp at hne)
  injection h1 with h1; injection h1 with e1 e2; subst e1 e2
  refine ⟨b, o + k, rfl, h2, fun j v hv => ?_⟩
  rw [List.getElem?_drop] at hv
  rw [Nat.add_assoc]
  exact h3 (k + j) v hv

/-- what stands from place q on, as Go cuts it -/
theorem Rd.cutAt {w : World} {B b cap : Nat} {vs : List Value} (h : Rd w B (some ⟨b, 0, none⟩) vs) (q : Nat) (hc : vs.length ≤ cap) : Rd w B (if cap = q then some ⟨b, 0, none⟩ else some ⟨b, q, none⟩) (vs.drop q) := by
  by_cases hq : cap = q
  · rw [List.drop_eq_nil_of_le (by omega)]
    exact fun hne => absurd rfl hne
  · rw [if_neg hq]
    have := h.dropAt q
    rwa [Nat.zero_add] at this
theorem Rd.grown {w w' : World} {B : Nat} {a : Option Addr} {vs : List Value} {row : Option Nat} (h : Rd w B a vs) (hg : w.grownBy w' row) (hB : B ≤ w.heap.size) (hr : ∀ g, row = some g → ∀ b o, a = some ⟨b, o, none⟩ → b ≠ g) : Rd w' B a vs := fun hne => by
  obtain ⟨b, o, h1, h2, h3⟩ := h hne
  exact ⟨b, o, h1, h2, fun k v hv => (World.cell?_of_block (hg.block b (by omega) (fun e => hr b e.symm b o h1 rfl))).trans (h3 k v hv)⟩

theorem step_append_b {P : Program} (w : World) {ops : Array Oper} {o : Oper} {a : Act} {K : Act → World → Prop} {Q : Exit → Act → World → Prop} {E : Prop} (hgd : o.guard = none) (s x : Operand) (t : TypeId)
    (ho : o.op = .call { callee := .builtin .append, args := #[s, x], argTypes := #[t, t] })
    (lo hi : Nat) (e : TypeId) (i : TypeInfo) (z : Value) (bytes : Nat) (ht : P.underlying t = some (.slice e)) (hi0 : P.info? e = some i) (hz : i.zero = some z)
    (hsize : i.size = 1) (hby : i.bytes = bytes) (hzs : z.cells.size = 1) (v : Value) (vs : List Value) (hs : a.eval s = v) (w0 : World) (hb : Below lo w0 w) (hlo0 : lo ≤ w0.heap.size) (hown : Own w lo hi e v vs)
    (B : Nat) (A : Option Addr) (m c : Nat) (news : List Value) (hx : a.eval x = .slice A m c) (hr : Rd w B A news) (hm : m = news.length) (h1 : ∀ u ∈ news, u.oneCell' = true)
    (h63 : vs.length + m ≤ 4194304) (hby2 : bytes ≤ 64)
    (h : ∀ v' w', Own w' lo w'.heap.size e v' (vs ++ news) → Below lo w0 w' → w.grownBy w' v.ownBlock → K (a.put o.dst v') w') :
    if Region.wanted o (yielded ops a.tmps) = true then Oper.wp P o a w K Q else E :=
  step_append_o w hgd s x t ho lo hi e i z bytes ht hi0 hz hsize hby hzs v vs hs hown B A m c news hx hr hm h1 (by unfold maxLen; omega)
    (Nat.le_trans (Nat.mul_le_mul h63 hby2) (by omega)) (Nat.le_trans hlo0 hb.size)
    fun v' w' h2 h3 _ => h v' w' h2 (hb.grown h3 (Nat.le_trans hlo0 hb.size) hown.base) h3
theorem own_empty1 {lo : Nat} (w : World) (e : TypeId) (hlo : lo ≤ w.heap.size) : Own (w.alloc (.cells #[] e)) lo (w.heap.size + 1) e (.slice (some ⟨w.heap.size, 0, none⟩) 0 0) [] := (Own.empty w e).lower hlo
theorem own_empty2 {lo : Nat} (w : World) (e : TypeId) (o : Obj) (hlo : lo ≤ w.heap.size) : Own ((w.alloc o).alloc (.cells #[] e)) lo (w.heap.size + 2) e (.slice (some ⟨w.heap.size + 1, 0, none⟩) 0 0) [] := by
  have h := (Own.empty (w.alloc o) e).lower (lo' := lo) (by simp; omega)
  simpa using h
theorem len_take {M : List Int} {q : Nat} (h : q ≤ M.length) : q = (ints (M.take q)).length := by simp; omega
theorem len_drop {M : List Int} {q : Nat} : M.length - q = (ints (M.drop q)).length := by simp
theorem ints_one (D : List Int) : ∀ v ∈ ints D, v.oneCell' = true := by
  intro v hv
  simp at hv
  obtain ⟨x, -, rfl⟩ := hv
  rfl

theorem Rd.alloc {w : World} {B : Nat} {a : Option Addr} {vs : List Value} (h : Rd w B a vs) (hB : B ≤ w.heap.size) (o : Obj) : Rd (w.alloc o) B a vs := h.below ((Below.refl B w).alloc hB o)
theorem Rd.drew {w : World} {B : Nat} {a : Option Addr} {vs : List Value} (h : Rd w B a vs) : Rd w.drew B a vs := h
theorem rd_one2 (w : World) (o : Obj) (u : Value) (t : TypeId) : Rd ((w.alloc o).alloc (.cells #[u] t)) (w.heap.size + 2) (some ⟨w.heap.size + 1, 0, none⟩) [u] := by
  have h := Rd.one (w.alloc o) u t
  simpa using h
theorem rd_one3 (w : World) (o : Obj) (u : Value) (t : TypeId) : Rd ((w.alloc (.cells #[u] t)).alloc o) (w.heap.size + 1) (some ⟨w.heap.size, 0, none⟩) [u] := (Rd.one w u t).alloc (by simp) o
theorem Rd.apart {w w' : World} {B x y n c : Nat} {vs : List Value} (h : Rd w B (some ⟨x, 0, none⟩) vs) (hg : w.grownBy w' (Value.slice (some ⟨y, 0, none⟩) n c).ownBlock) (hB : B ≤ w.heap.size) (hne : x ≠ y) : Rd w' B (some ⟨x, 0, none⟩) vs :=
  h.grown hg hB fun g hgg b o e => by simp [Value.ownBlock] at hgg; injection e with e; injection e with e; omega

theorem Own.formN {w : World} {lo hi : Nat} {e : TypeId} {v : Value} {vs : List Value} (h : Own w lo hi e v vs) (h0 : 0 < vs.length) : ∃ g c, v = .slice (some ⟨g, 0, none⟩) vs.length c ∧ vs.length ≤ c := by
  rcases h.row.2 with ⟨h1, h2⟩ | ⟨g, cap, cur, h1, _, _, h3, _⟩
  · omega
  · exact ⟨g, cap, h1, h3⟩

theorem Own.read {w : World} {lo hi : Nat} {e : TypeId} {a : Option Addr} {n c : Nat} {vs : List Value} (h : Own w lo hi e (.slice a n c) vs) {k : Nat} (hk : k < vs.length) : ∃ g, a = some ⟨g, 0, none⟩ ∧ w.cell? ⟨g, k, none⟩ = some vs[k] := by
  obtain ⟨g, c', h1, _, _, h4, _⟩ := h.at_ hk
  injection h1 with h1 _ _
  exact ⟨g, h1, h4⟩
end Go.Proofs.Ytifhnjnpbpgjfaa
namespace Go.Proofs.Ytifhnjnpbpgjfaa
open Go.RowKit NP
set_option maxRecDepth 8000
set_option linter.unusedVariables false

/-- what the sums on the way stay within -/
def sumFits (L : List Int) : Prop := ∀ k, k ≤ L.length → -4611686018427387904 ≤ sumL (L.take k) ∧ sumL (L.take k) ≤ 4611686018427387904
theorem sumFits.next {L : List Int} (h : sumFits L) {k : Nat} (hk : k < L.length) : -4611686018427387904 ≤ sumL (L.take k) + L[k] ∧ sumL (L.take k) + L[k] ≤ 4611686018427387904 := by
  have := h (k + 1) (by omega)
  rw [sumL_take_succ L k hk] at this
  exact this

theorem sum_any (a : Option Addr) (c B : Nat) (L : List Int) (w : World) (h : Rd w B a (ints L)) (hs : sumFits L) (hl : L.length ≤ 4611686018427387904) :
    Calls Try.prog 74 #[.slice a L.length c] w fun e w' => e = .returned (.int .i64 (sumL L)) ∧ w = w' := by
  go_enter Try.func74, Try.ntmps74
  go_wp2
  go_loop [3, 4] (fun s i => ∃ k : Nat, k ≤ L.length ∧ i = .int .i64 k ∧ s = .int .i64 (sumL (L.take k))) (fun _ i => L.length - (intOf i).toNat)
  case atStart => exact ⟨0, Nat.zero_le _, rfl, rfl⟩
  case round =>
    obtain ⟨k, hk, rfl, rfl⟩ := hrel
    by_cases hlt : k < L.length
    · obtain ⟨b, o, rfl, _, hc⟩ := h.at_ hlt
      have h1 := hs k hk
      have h2 := hs.next hlt
      have h3 := sumL_take_succ L k hlt
      have H3 := Lib.hid h3
      clear h3
      go_wp2
      go_round
      case rel => exact ⟨k + 1, by omega, by go_num, by rw [H3.out]⟩
      case measure => simp [intOf]; omega
    · go_wp2
      go_ret
      exact ⟨ret_i64 (by rw [List.take_of_length_le (by omega)]), rfl⟩

theorem inRange_yes (n lo hi : Int) (w : World) (h1 : lo ≤ n) (h2 : n ≤ hi) : Calls Try.prog 31 #[.int .i64 n, .int .i64 lo, .int .i64 hi] w fun e w' => e = .returned (.bool true) ∧ w' = w := by
  go_enter Try.func31, Try.ntmps31
  go_wp2
  go_ret
  exact ⟨rfl, rfl⟩
theorem inRange_no (n lo hi : Int) (w : World) (h : n < lo ∨ hi < n) : Calls Try.prog 31 #[.int .i64 n, .int .i64 lo, .int .i64 hi] w fun e w' => e = .returned (.bool false) ∧ w' = w := by
  by_cases h1 : lo ≤ n
  · have h2 : hi < n := by omega
    clear h
    go_enter Try.func31, Try.ntmps31
    go_wp2
    go_ret
    exact ⟨ret_bool (by simp; omega), rfl⟩
  · clear h
    go_enter Try.func31, Try.ntmps31
    go_wp2
    go_ret
    exact ⟨rfl, rfl⟩

theorem validParts_any (a : Option Addr) (c B : Nat) (L : List Int) (w : World) (h : Rd w B a (ints L)) (hl : L.length ≤ 4611686018427387904) :
    Calls Try.prog 52 #[.slice a L.length c] w fun e w' => e = .returned (.bool (valid L)) ∧ ∃ n, w' = w.drewN n := by
  go_enter Try.func52, Try.ntmps52
  go_wp2
  go_loopw [3] (fun i wr => ∃ k : Nat, k ≤ L.length ∧ i = .int .i64 k ∧ Dr w wr ∧ preS L k) (fun i _ => L.length - (intOf i).toNat)
  case atStart => exact ⟨0, Nat.zero_le _, rfl, Dr.refl _, fun j _ h => by omega⟩
  case round =>
    obtain ⟨k, hk, rfl, hdr, hpre⟩ := hrel
    by_cases hlt : k < L.length
    · have hR := h.dr hdr
      obtain ⟨b, o, rfl, hB, hc⟩ := hR.at_ hlt
      have HP := Lib.hid hpre
      have HN := Lib.hid (not_valid_at hlt)
      have HS := Lib.hid (preS_succ hlt hpre)
      clear hpre
      by_cases h12 : 1 ≤ L[k] ∧ L[k] ≤ 16
      · obtain ⟨h1, h2⟩ := h12
        by_cases h0 : k = 0
        · subst h0
          have hc' : wr.cell? ⟨b, o, none⟩ = some (.int .i64 L[0]) := hc
          go_wp2_with fail
          go_quiet ((go_at_call 31; exact Calls.quiet_of_same (inRange_yes _ _ _ _ h1 h2)))
          go_wp2
          go_roundw
          case rel => exact ⟨0 + 1, by omega, by go_num, hdr.drewN _, HS.out h1 h2 (by omega)⟩
          case measure => simp [intOf]; omega
        · have hk1 : k - 1 < L.length := by omega
          obtain ⟨b', o', e', -, hc2⟩ := hR.at_ hk1
          injection e' with e'; injection e' with e1 e2; subst e1 e2
          have h4 : (0 : Int) < k := by omega
          have h5 : 0 < k := by omega
          have h7 : 1 ≤ k := by omega
          by_cases h3 : L[k] ≤ L[k - 1]
          · go_wp2_with fail
            go_quiet ((go_at_call 31; exact Calls.quiet_of_same (inRange_yes _ _ _ _ h1 h2)))
            go_wp2
            go_roundw
            case rel => exact ⟨k + 1, by omega, by go_num, hdr.drewN _, HS.out h1 h2 (fun _ => h3)⟩
            case measure => simp [intOf]; omega
          · have hv : valid L = false := HN.out (fun hh => h3 (hh.2.2 h5))
            have HV := Lib.hid hv
            clear hv
            have h3' : L[k - 1] < L[k] := by omega
            go_wp2_with fail
            go_quiet ((go_at_call 31; exact Calls.quiet_of_same (inRange_yes _ _ _ _ h1 h2)))
            go_wp2
            go_ret
            exact ⟨ret_bool HV.out.symm, hdr.drewN _⟩
      · have hv : valid L = false := HN.out (fun hh => h12 ⟨hh.1, hh.2.1⟩)
        have HV := Lib.hid hv
        clear hv
        have h12' : L[k] < 1 ∨ 16 < L[k] := by omega
        clear h12
        have H12 := Lib.hid h12'
        clear h12'
        go_wp2_with fail
        go_quiet ((go_at_call 31; exact Calls.quiet_of_same (inRange_no _ _ _ _ H12.out)))
        go_wp2
        go_ret
        exact ⟨ret_bool HV.out.symm, hdr.drewN _⟩
    · obtain rfl : k = L.length := by omega
      by_cases hlen : L.length ≤ 16
      · have hfit : sumFits L := fun j hj => by have := preS_sum hpre j hj; omega
        have HV := Lib.hid (fun hs => valid_of_preS hpre hs)
        have HV2 := Lib.hid (fun hv : valid L = true => (valid_bd hv).2.1)
        by_cases hs : sumL L ≤ 16
        · go_wp2_with (go_at_call 74; refine (sum_any _ _ B L _ (h.dr hdr) hfit (by omega)).mono ?_; rintro e w' ⟨rfl, rfl⟩)
          go_ret
          exact ⟨ret_bool (HV.out hs).symm, hdr⟩
        · go_wp2_with (go_at_call 74; refine (sum_any _ _ B L _ (h.dr hdr) hfit (by omega)).mono ?_; rintro e w' ⟨rfl, rfl⟩)
          go_ret
          exact ⟨ret_bool (by cases hv : valid L with | false => (simp; omega) | true => exact absurd (HV2.out hv) (by omega)), hdr⟩
      · have HV2 := Lib.hid (fun hv : valid L = true => (valid_bd hv).2.2.2)
        go_wp2_with fail
        go_ret
        exact ⟨ret_bool (by cases hv : valid L with | false => simp | true => exact absurd (HV2.out hv) (by omega)), hdr⟩
end Go.Proofs.Ytifhnjnpbpgjfaa
namespace Go.Proofs.Ytifhnjnpbpgjfaa
open Go.RowKit NP
set_option maxRecDepth 8000
set_option linter.unusedVariables false
theorem T_int : (Try.prog.info? 3).map (fun i => (i.zero, i.size, i.bytes)) = some (some (.int .i64 0), 1, 8) := by kernel_rfl
theorem equalInts_any (a b : Option Addr) (ca cb Ba Bb : Nat) (L M : List Int) (w : World) (h : Rd w Ba a (ints L)) (hm : Rd w Bb b (ints M)) (hl : L.length ≤ 4611686018427387904) (hl2 : M.length ≤ 4611686018427387904) :
    Calls Try.prog 42 #[.slice a L.length ca, .slice b M.length cb] w fun e w' => e = .returned (.bool (decide (L = M))) ∧ ∃ n, w' = w.drewN n := by
  by_cases hlen : L.length = M.length
  · have hne : ((L.length : Int) != (M.length : Int)) = false := by simp [hlen]
    have HL := Lib.hid hlen
    clear hlen
    go_enter Try.func42, Try.ntmps42
    go_wp2
    go_loopw [5] (fun i wr => ∃ k : Nat, k ≤ L.length ∧ i = .int .i64 k ∧ Dr w wr ∧ Hid (L.take k = M.take k)) (fun i _ => L.length - (intOf i).toNat)
    case atStart => exact ⟨0, Nat.zero_le _, rfl, Dr.refl _, Lib.hid rfl⟩
    case round =>
      obtain ⟨k, hk, rfl, hdr, HT⟩ := hrel
      by_cases hlt : k < L.length
      · have hlt2 : k < M.length := by have := HL.out; omega
        obtain ⟨b1, o1, rfl, -, hc1⟩ := (h.dr hdr).at_ hlt
        obtain ⟨b2, o2, rfl, -, hc2⟩ := (hm.dr hdr).at_ hlt2
        by_cases hx : L[k] = M[k]
        · have hx' : (L[k] != M[k]) = false := by simp [hx]
          have HX := Lib.hid hx
          clear hx
          go_wp2_with fail
          go_quiet (fail)
          go_wp2
          go_roundw
          case rel => exact ⟨k + 1, by omega, by go_num, hdr.drewN _, Lib.hid (by rw [List.take_succ_eq_append_getElem hlt, List.take_succ_eq_append_getElem hlt2, HT.out, HX.out])⟩
          case measure => simp [intOf]; omega
        · have hx' : (L[k] != M[k]) = true := by simp [hx]
          have HX := Lib.hid hx
          clear hx
          go_wp2_with fail
          go_quiet (fail)
          go_wp2
          go_ret
          exact ⟨ret_bool (by simp; intro e; apply HX.out; simp only [e]), hdr.drewN _⟩
      · obtain rfl : k = L.length := by omega
        go_wp2
        go_ret
        exact ⟨ret_bool (by simp; have := HT.out; rw [List.take_of_length_le (Nat.le_refl _), List.take_of_length_le (by have := HL.out; omega)] at this; exact this), hdr⟩
  · have hne : ((L.length : Int) != (M.length : Int)) = true := by simp; omega
    have HL := Lib.hid hlen
    clear hlen
    go_enter Try.func42, Try.ntmps42
    go_wp2
    go_ret
    exact ⟨ret_bool (by simp; intro e; exact HL.out (by rw [e])), Dr.refl _⟩

theorem fill_set {L : List Int} {k : Nat} (hk : k < L.length) : (ints (L.take k) ++ List.replicate (L.length - k) (Value.int .i64 0)).set k (.int .i64 L[k]) = ints (L.take (k + 1)) ++ List.replicate (L.length - (k + 1)) (Value.int .i64 0) := by
  have e1 : (ints (L.take k)).length = k := by simp; omega
  rw [show L.length - k = (L.length - (k + 1)) + 1 by omega, List.replicate_succ, List.set_append_right _ _ (by omega), e1, Nat.sub_self, List.set_cons_zero, List.take_succ_eq_append_getElem hk]
  simp only [ints, List.map_append, List.map_cons, List.map_nil, List.append_assoc, List.cons_append, List.nil_append]

theorem T_int' : ∃ i, Try.prog.info? 3 = some i ∧ i.zero = some (.int .i64 0) ∧ i.size = 1 ∧ i.bytes = 8 := info_parts T_int


/-- the marks from m on -/
def marks (m : Int) (n : Nat) : List Int := (List.range n).map fun (j : Nat) => m + (j : Int)
theorem marks_len (m : Int) (n : Nat) : (marks m n).length = n := by simp [marks]
theorem marks_get (m : Int) (n j : Nat) (h : j < (marks m n).length) : (marks m n)[j] = m + (j : Int) := by simp [marks]
theorem mark_set {L : List Int} {m : Int} {k : Nat} (hk : k < L.length) : (ints (marks m k ++ L.drop k)).set k (.int .i64 (m + (k : Int))) = ints (marks m (k + 1) ++ L.drop (k + 1)) := by
  have e1 : (marks m k).length = k := marks_len m k
  rw [List.drop_eq_getElem_cons hk, ints, List.map_append, List.map_cons, List.set_append_right _ _ (by simp [e1]), List.length_map, e1, Nat.sub_self, List.set_cons_zero]
  simp [ints, marks, List.range_succ]



theorem equalInts_same (a b : Option Addr) (ca cb Ba Bb : Nat) (L : List Int) (w : World) (h : Rd w Ba a (ints L)) (hm : Rd w Bb b (ints L)) (hl : L.length ≤ 4611686018427387904) :
    Calls Try.prog 42 #[.slice a L.length ca, .slice b L.length cb] w fun e w' => e = .returned (.bool true) ∧ Dr w w' :=
  (equalInts_any a b ca cb Ba Bb L L w h hm hl hl).mono fun e w' ⟨h1, h2⟩ => ⟨by rw [h1]; simp, h2⟩

theorem total_any (a : Option Addr) (c B : Nat) (L : List Int) (w : World) (h : Rd w B a (ints L)) (hs : sumFits L) (hl : L.length ≤ 4611686018427387904) :
    Calls Try.prog 27 #[.slice a L.length c] w fun e w' => e = .returned (.int .i64 (sumL L)) ∧ w = w' := by
  go_enter Try.func27, Try.ntmps27
  go_wp2
  go_loop [3, 4] (fun s i => ∃ k : Nat, k ≤ L.length ∧ i = .int .i64 k ∧ s = .int .i64 (sumL (L.take k))) (fun _ i => L.length - (intOf i).toNat)
  case atStart => exact ⟨0, Nat.zero_le _, rfl, rfl⟩
  case round =>
    obtain ⟨k, hk, rfl, rfl⟩ := hrel
    by_cases hlt : k < L.length
    · obtain ⟨b, o, rfl, _, hc⟩ := h.at_ hlt
      have h1 := hs k hk
      have h2 := hs.next hlt
      have H3 := Lib.hid (sumL_take_succ L k hlt)
      go_wp2
      go_round
      case rel => exact ⟨k + 1, by omega, by go_num, by rw [H3.out]⟩
      case measure => simp [intOf]; omega
    · go_wp2
      go_ret
      exact ⟨ret_i64 (by rw [List.take_of_length_le (by omega)]), rfl⟩
end Go.Proofs.Ytifhnjnpbpgjfaa
namespace Go.Proofs.Ytifhnjnpbpgjfaa
open Go.RowKit
set_option maxRecDepth 8000

/-- a value reads as a list of numbers -/
def Inn (w : World) (B : Nat) (v : Value) (L : List Int) : Prop := ∃ a c, v = .slice a L.length c ∧ Rd w B a (ints L) ∧ L.length ≤ c
def RdLL (w : World) (B : Nat) (a : Option Addr) (LL : List (List Int)) : Prop :=
  ∃ vs, Rd w B a vs ∧ vs.length = LL.length ∧ ∀ (k : Nat) v L, vs[k]? = some v → LL[k]? = some L → Inn w B v L

theorem Inn.below {w w' : World} {B : Nat} {v : Value} {L : List Int} (h : Inn w B v L) (hb : Below B w w') : Inn w' B v L := by
  obtain ⟨a, c, rfl, h1, h2⟩ := h
  exact ⟨a, c, rfl, h1.below hb, h2⟩
theorem Inn.more {w : World} {B B' : Nat} {v : Value} {L : List Int} (h : Inn w B v L) (hB : B ≤ B') : Inn w B' v L := by
  obtain ⟨a, c, rfl, h1, h2⟩ := h
  exact ⟨a, c, rfl, h1.more hB, h2⟩
theorem RdLL.below {w w' : World} {B : Nat} {a : Option Addr} {LL : List (List Int)} (h : RdLL w B a LL) (hb : Below B w w') : RdLL w' B a LL := by
  obtain ⟨vs, h1, h2, h3⟩ := h
  exact ⟨vs, h1.below hb, h2, fun k v L hv hL => (h3 k v L hv hL).below hb⟩
theorem RdLL.more {w : World} {B B' : Nat} {a : Option Addr} {LL : List (List Int)} (h : RdLL w B a LL) (hB : B ≤ B') : RdLL w B' a LL := by
  obtain ⟨vs, h1, h2, h3⟩ := h
  exact ⟨vs, h1.more hB, h2, fun k v L hv hL => (h3 k v L hv hL).more hB⟩
theorem RdLL.dr {w w' : World} {B : Nat} {a : Option Addr} {LL : List (List Int)} (h : RdLL w B a LL) (hb : Dr w w') : RdLL w' B a LL := h.below (hb.below B)
/-- the k-th list -/
theorem RdLL.at_ {w : World} {B : Nat} {a : Option Addr} {LL : List (List Int)} (h : RdLL w B a LL) {k : Nat} (hk : k < LL.length) :
    ∃ b o a' c', a = some ⟨b, o, none⟩ ∧ b < B ∧ w.cell? ⟨b, o + k, none⟩ = some (.slice a' LL[k].length c') ∧ Rd w B a' (ints LL[k]) ∧ LL[k].length ≤ c' := by
  obtain ⟨vs, h1, h2, h3⟩ := h
  have hkv : k < vs.length := by omega
  obtain ⟨b, o, rfl, hb, hc⟩ := h1 (by intro e; subst e; simp at hkv)
  obtain ⟨a', c', e, hr, hl⟩ := h3 k vs[k] LL[k] (List.getElem?_eq_getElem hkv) (List.getElem?_eq_getElem hk)
  exact ⟨b, o, a', c', rfl, hb, by rw [hc k vs[k] (List.getElem?_eq_getElem hkv), e], hr, hl⟩

/-- the outer block and each list's block are the call's own, and no two are one -/
structure OwnLL (w : World) (lo hi : Nat) (eo e : TypeId) (v : Value) (vs : List Value) (LL : List (List Int)) : Prop where
  outer : Own w lo hi eo v vs
  len : vs.length = LL.length
  inner : ∀ (k : Nat) u L, vs[k]? = some u → LL[k]? = some L → Own w lo hi e u (ints L)
  apartO : ∀ (k : Nat) u g, vs[k]? = some u → u.ownBlock = some g → v.ownBlock ≠ some g
  apart : ∀ (j k : Nat) u u' g, vs[j]? = some u → vs[k]? = some u' → u.ownBlock = some g → u'.ownBlock = some g → j = k

theorem OwnLL.below {w w' : World} {lo hi : Nat} {eo e : TypeId} {v : Value} {vs : List Value} {LL : List (List Int)} (h : OwnLL w lo hi eo e v vs LL) (hb : Below hi w w') : OwnLL w' lo hi eo e v vs LL :=
  ⟨h.outer.below hb, h.len, fun k u L hu hL => (h.inner k u L hu hL).below hb, h.apartO, h.apart⟩
theorem OwnLL.lower {w : World} {lo lo' hi : Nat} {eo e : TypeId} {v : Value} {vs : List Value} {LL : List (List Int)} (h : OwnLL w lo hi eo e v vs LL) (hl : lo' ≤ lo) : OwnLL w lo' hi eo e v vs LL :=
  ⟨h.outer.lower hl, h.len, fun k u L hu hL => (h.inner k u L hu hL).lower hl, h.apartO, h.apart⟩
theorem OwnLL.more {w : World} {lo hi : Nat} {eo e : TypeId} {v : Value} {vs : List Value} {LL : List (List Int)} (h : OwnLL w lo hi eo e v vs LL) : OwnLL w lo w.heap.size eo e v vs LL :=
  ⟨h.outer.more, h.len, fun k u L hu hL => (h.inner k u L hu hL).more, h.apartO, h.apart⟩
theorem OwnLL.le {w : World} {lo hi : Nat} {eo e : TypeId} {v : Value} {vs : List Value} {LL : List (List Int)} (h : OwnLL w lo hi eo e v vs LL) : hi ≤ w.heap.size := h.outer.le
theorem OwnLL.form {w : World} {lo hi : Nat} {eo e : TypeId} {v : Value} {vs : List Value} {LL : List (List Int)} (h : OwnLL w lo hi eo e v vs LL) : ∃ a c, v = .slice a LL.length c := by
  obtain ⟨a, c, hv⟩ := h.outer.form
  exact ⟨a, c, by rw [← h.len]; exact hv⟩
theorem OwnLL.empty (w : World) (eo e : TypeId) : OwnLL (w.alloc (.cells #[] eo)) w.heap.size (w.heap.size + 1) eo e (.slice (some ⟨w.heap.size, 0, none⟩) 0 0) [] [] :=
  ⟨Own.empty w eo, rfl, fun k u L hu => by simp at hu, fun k u g hu => by simp at hu, fun j k u u' g hu => by simp at hu⟩
theorem OwnLL.nil (w : World) (lo : Nat) (eo e : TypeId) : OwnLL w lo w.heap.size eo e (.slice none 0 0) [] [] :=
  ⟨Own.nil w lo eo, rfl, fun k u L hu => by simp at hu, fun k u g hu => by simp at hu, fun j k u u' g hu => by simp at hu⟩
theorem OwnLL.rd {w : World} {lo hi : Nat} {eo e : TypeId} {a : Option Addr} {n c : Nat} {vs : List Value} {LL : List (List Int)} (h : OwnLL w lo hi eo e (.slice a n c) vs LL) : RdLL w hi a LL := by
  refine ⟨vs, h.outer.rd, h.len, fun k u L hu hL => ?_⟩
  have hi' := h.inner k u L hu hL
  obtain ⟨a', c', rfl⟩ := hi'.form
  refine ⟨a', c', by rw [List.length_map], hi'.rd, ?_⟩
  rcases Nat.eq_zero_or_pos L.length with h0 | h0
  · omega
  · obtain ⟨g, c2, e2, hc⟩ := hi'.formN (by simpa using h0)
    injection e2 with _ _ e3
    rw [List.length_map] at hc
    omega
/-- one list more, its block beyond all that there was: the outer list anew or in its place -/
theorem OwnLL.push {w w' : World} {lo hi hi' : Nat} {eo e : TypeId} {v v' u : Value} {vs : List Value} {LL : List (List Int)} {L : List Int} (h : OwnLL w lo hi eo e v vs LL)
    (ho : Own w' lo hi' eo v' (vs ++ [u])) (hin : ∀ (k : Nat) u L, vs[k]? = some u → LL[k]? = some L → Own w' lo hi' e u (ints L)) (hu : Own w' lo hi' e u (ints L))
    (h1 : ∀ g, u.ownBlock = some g → v'.ownBlock ≠ some g) (h2 : ∀ (k : Nat) x g, vs[k]? = some x → x.ownBlock = some g → v'.ownBlock ≠ some g ∧ u.ownBlock ≠ some g) : OwnLL w' lo hi' eo e v' (vs ++ [u]) (LL ++ [L]) := by
  have hl := h.len
  refine ⟨ho, by simp [hl], fun k x M hx hM => ?_, fun k x g hx hg => ?_, fun j k x y g hx hy hgx hgy => ?_⟩
  · by_cases hk : k < vs.length
    · rw [List.getElem?_append_left hk] at hx
      rw [List.getElem?_append_left (by omega)] at hM
      exact hin k x M hx hM
    · rw [List.getElem?_append_right (by omega)] at hx
      rw [List.getElem?_append_right (by omega)] at hM
      have e0 : k - vs.length = 0 := by
        rcases Nat.eq_zero_or_pos (k - vs.length) with z | z
        · exact z
        · rw [List.getElem?_eq_none (by simp only [List.length_singleton]; omega)] at hx; cases hx
      rw [e0] at hx
      rw [← hl, e0] at hM
      cases hx; cases hM
      exact hu
  · by_cases hk : k < vs.length
    · rw [List.getElem?_append_left hk] at hx
      exact (h2 k x g hx hg).1
    · rw [List.getElem?_append_right (by omega)] at hx
      have e0 : k - vs.length = 0 := by
        rcases Nat.eq_zero_or_pos (k - vs.length) with z | z
        · exact z
        · rw [List.getElem?_eq_none (by simp only [List.length_singleton]; omega)] at hx; cases hx
      rw [e0] at hx
      cases hx
      exact h1 g hg
  · have last : ∀ i, ¬ i < vs.length → ∀ z, (vs ++ [u])[i]? = some z → i = vs.length ∧ z = u := fun i hi z hz => by
      rw [List.getElem?_append_right (by omega)] at hz
      have e0 : i - vs.length = 0 := by
        rcases Nat.eq_zero_or_pos (i - vs.length) with q | q
        · exact q
        · rw [List.getElem?_eq_none (by simp only [List.length_singleton]; omega)] at hz; cases hz
      rw [e0] at hz
      cases hz
      exact ⟨by omega, rfl⟩
    by_cases hj : j < vs.length
    · rw [List.getElem?_append_left hj] at hx
      by_cases hk : k < vs.length
      · rw [List.getElem?_append_left hk] at hy
        exact h.apart j k x y g hx hy hgx hgy
      · obtain ⟨_, rfl⟩ := last k hk y hy
        exact absurd hgy (h2 j x g hx hgx).2
    · obtain ⟨hj2, rfl⟩ := last j hj x hx
      by_cases hk : k < vs.length
      · rw [List.getElem?_append_left hk] at hy
        exact absurd hgx (h2 k y g hy hgy).2
      · obtain ⟨hk2, _⟩ := last k hk y hy
        omega
/-- one list more by append: its block was made behind the outer list's -/
theorem OwnLL.append {w w' : World} {lo hi lou hiu : Nat} {eo e : TypeId} {v v' u : Value} {vs : List Value} {LL : List (List Int)} {L : List Int} (h : OwnLL w lo hi eo e v vs LL)
    (hu : Own w lou hiu e u (ints L)) (hlou : hi ≤ lou) (hlo : lo ≤ lou) (ho : Own w' lo w'.heap.size eo v' (vs ++ [u])) (hg : w.grownBy w' v.ownBlock) (hat : v'.ownBlock = v.ownBlock ∨ v'.ownBlock = some w.heap.size) :
    OwnLL w' lo w'.heap.size eo e v' (vs ++ [u]) (LL ++ [L]) := by
  have hL : ∀ (k : Nat) x g, vs[k]? = some x → x.ownBlock = some g → g < hi := fun k x g hx hgx => by
    have hkv := (List.getElem?_eq_some_iff.1 hx).1
    have hkl : k < LL.length := by rw [← h.len]; exact hkv
    exact (h.inner k x LL[k] hx (List.getElem?_eq_getElem hkl)).lt g hgx
  refine h.push ho (fun k x M hx hM => ?_) ?_ (fun g hgu hv => ?_) (fun k x g hx hgx => ⟨fun hv => ?_, fun hgu => ?_⟩)
  · have hk := h.inner k x M hx hM
    refine (hk.grown hg ?_).more
    cases hb : x.ownBlock with
    | none => exact .inl rfl
    | some g => exact .inr fun e => h.apartO k x g hx hb e.symm
  · refine ((hu.grown hg ?_).more).lower hlo
    cases hb : u.ownBlock with
    | none => exact .inl rfl
    | some g => exact .inr fun e => by have h1 := hu.base g hb; have h2 := h.outer.lt g e.symm; omega
  · have h1 := hu.base g hgu
    rcases hat with e | e
    · have h2 := h.outer.lt g (e ▸ hv); omega
    · rw [e] at hv; cases hv; have h2 := hu.lt _ hgu; have h3 := hu.le; omega
  · rcases hat with e | e
    · exact h.apartO k x g hx hgx (e ▸ hv)
    · rw [e] at hv; cases hv; have h2 := hL k x _ hx hgx; have h3 := h.le; omega
  · have h1 := hu.base g hgu; have h2 := hL k x g hx hgx; omega
/-- the k-th list, its block and its place -/
theorem OwnLL.at_ {w : World} {lo hi : Nat} {eo e : TypeId} {a : Option Addr} {n c : Nat} {vs : List Value} {LL : List (List Int)} (h : OwnLL w lo hi eo e (.slice a n c) vs LL) {k : Nat} (hk : k < LL.length) :
    ∃ g a' c', a = some ⟨g, 0, none⟩ ∧ lo ≤ g ∧ g < hi ∧ w.cell? ⟨g, k, none⟩ = some (.slice a' LL[k].length c') ∧ Own w lo hi e (.slice a' LL[k].length c') (ints LL[k]) ∧ vs[k]? = some (.slice a' LL[k].length c') := by
  have hkv : k < vs.length := by rw [h.len]; exact hk
  obtain ⟨g, c1, e1, h1, h2, h3, _⟩ := h.outer.at_ hkv
  injection e1 with e1 _ _
  have hi' := h.inner k vs[k] LL[k] (List.getElem?_eq_getElem hkv) (List.getElem?_eq_getElem hk)
  obtain ⟨a', c', e2⟩ := hi'.form
  rw [List.length_map] at e2
  exact ⟨g, a', c', e1, h1, h2, by rw [h3, e2], e2 ▸ hi', by rw [List.getElem?_eq_getElem hkv, e2]⟩
/-- one list written anew in its place -/
theorem OwnLL.setIn {w w' : World} {lo hi : Nat} {eo e : TypeId} {v u : Value} {vs : List Value} {LL : List (List Int)} {L : List Int} (h : OwnLL w lo hi eo e v vs LL) {k : Nat} (hk : vs[k]? = some u)
    (hg : w.grownBy w' u.ownBlock) (hu : Own w' lo hi e u (ints L)) : OwnLL w' lo hi eo e v vs (LL.set k L) := by
  have hv : v.ownBlock = none ∨ v.ownBlock ≠ u.ownBlock := by
    cases hb : v.ownBlock with
    | none => exact .inl rfl
    | some g => exact .inr fun e => h.apartO k u g hk e.symm hb
  refine ⟨h.outer.grown hg hv, by rw [List.length_set]; exact h.len, fun j x M hx hM => ?_, h.apartO, h.apart⟩
  rw [List.getElem?_set] at hM
  by_cases hj : k = j
  · subst hj
    rw [if_pos rfl] at hM
    split at hM
    · cases hM
      obtain rfl : x = u := by rw [hk] at hx; cases hx; rfl
      exact hu
    · cases hM
  · rw [if_neg hj] at hM
    refine (h.inner j x M hx hM).grown hg ?_
    cases hb : x.ownBlock with
    | none => exact .inl rfl
    | some g => exact .inr fun e => hj (h.apart k j u x g hk hx e.symm hb)
/-- the marks of lists, one behind another -/
def marksLL (m : Int) : List (List Int) → List (List Int)
  | [] => []
  | L :: R => ((List.range L.length).map fun (j : Nat) => m + (j : Int)) :: marksLL (m + (L.length : Int)) R
def cntLL (LL : List (List Int)) : Nat := (LL.map List.length).sum
theorem cntLL_append (A : List (List Int)) (L : List Int) : cntLL (A ++ [L]) = cntLL A + L.length := by simp [cntLL]
theorem marksLL_append (m : Int) (A : List (List Int)) (L : List Int) : marksLL m (A ++ [L]) = marksLL m A ++ [(List.range L.length).map fun (j : Nat) => (m + (cntLL A : Int)) + (j : Int)] := by
  induction A generalizing m with
  | nil => simp [marksLL, cntLL]
  | cons x R ih =>
    have e : m + (x.length : Int) + (cntLL R : Int) = m + (cntLL (x :: R) : Int) := by simp [cntLL]; omega
    show _ :: marksLL (m + (x.length : Int)) (R ++ [L]) = _
    rw [ih, e]
    rfl
theorem marksLL_len (m : Int) (A : List (List Int)) : (marksLL m A).length = A.length := by
  induction A generalizing m with
  | nil => rfl
  | cons x R ih => simp [marksLL, ih]
theorem cntLL_take (LL : List (List Int)) (k : Nat) : cntLL (LL.take k) ≤ cntLL LL := by
  induction LL generalizing k with
  | nil => simp [cntLL]
  | cons x R ih =>
    cases k with
    | zero => simp [cntLL]
    | succ k => have := ih k; simp [cntLL] at this ⊢; omega
/-- one list more is marked -/
theorem marksLL_set (m : Int) {LL : List (List Int)} {k : Nat} (hk : k < LL.length) :
    (marksLL m (LL.take k) ++ LL.drop k).set k ((List.range LL[k].length).map fun (j : Nat) => (m + (cntLL (LL.take k) : Int)) + (j : Int)) = marksLL m (LL.take (k + 1)) ++ LL.drop (k + 1) := by
  have e1 : (marksLL m (LL.take k)).length = k := by rw [marksLL_len, List.length_take]; omega
  rw [List.drop_eq_getElem_cons hk, List.set_append_right _ _ (by omega), e1, Nat.sub_self, List.set_cons_zero, List.take_succ_eq_append_getElem hk, marksLL_append]
  simp
theorem marksLL_get (m : Int) (LL : List (List Int)) (k : Nat) (hk : k < LL.length) (hh : k < (marksLL m LL).length) :
    (marksLL m LL)[k] = (List.range LL[k].length).map fun (j : Nat) => (m + (cntLL (LL.take k) : Int)) + (j : Int) := by
  induction LL generalizing m k with
  | nil => simp at hk
  | cons x R ih =>
    cases k with
    | zero => simp [marksLL, cntLL]
    | succ k =>
      have h2 : k < (marksLL (m + (x.length : Int)) R).length := by rw [marksLL_len]; simpa using hk
      have := ih (m + (x.length : Int)) k (by simpa using hk) h2
      have e : m + (x.length : Int) + (cntLL (R.take k) : Int) = m + (cntLL ((x :: R).take (k + 1)) : Int) := by simp [cntLL]; omega
      rw [e] at this
      exact this
theorem OwnLL.lt {w : World} {lo hi : Nat} {eo e : TypeId} {v : Value} {vs : List Value} {LL : List (List Int)} (h : OwnLL w lo hi eo e v vs LL) {k : Nat} {x : Value} {g : Nat} (hx : vs[k]? = some x) (hg : x.ownBlock = some g) : lo ≤ g ∧ g < hi := by
  have hkv := (List.getElem?_eq_some_iff.1 hx).1
  have hkl : k < LL.length := by rw [← h.len]; exact hkv
  have hi' := h.inner k x LL[k] hx (List.getElem?_eq_getElem hkl)
  exact ⟨hi'.base g hg, hi'.lt g hg⟩
/-- many lists more by append: theirs were made behind the outer list's -/
theorem OwnLL.appendAll {w w' : World} {lo hi lox hix : Nat} {eo e : TypeId} {v v' vx : Value} {vs vsx : List Value} {LL LLx : List (List Int)} (h : OwnLL w lo hi eo e v vs LL)
    (hx : OwnLL w lox hix eo e vx vsx LLx) (hd : hi ≤ lox) (hlo : lo ≤ lox) (ho : Own w' lo w'.heap.size eo v' (vs ++ vsx)) (hg : w.grownBy w' v.ownBlock) (hat : v'.ownBlock = v.ownBlock ∨ v'.ownBlock = some w.heap.size) :
    OwnLL w' lo w'.heap.size eo e v' (vs ++ vsx) (LL ++ LLx) := by
  have hl := h.len
  have L1 : ∀ {k : Nat} {x : Value} {g : Nat}, vs[k]? = some x → x.ownBlock = some g → lo ≤ g ∧ g < hi := fun a b => h.lt a b
  have L2 : ∀ {k : Nat} {x : Value} {g : Nat}, vsx[k]? = some x → x.ownBlock = some g → lox ≤ g ∧ g < hix := fun a b => hx.lt a b
  have hle := h.le
  have hlx := hx.le
  refine ⟨ho, by simp [hl, hx.len], fun k x M hk hM => ?_, fun k x g hk hgx hv => ?_, fun j k x y g hj hk hgx hgy => ?_⟩
  · by_cases hkv : k < vs.length
    · rw [List.getElem?_append_left hkv] at hk
      rw [List.getElem?_append_left (by omega)] at hM
      refine ((h.inner k x M hk hM).grown hg ?_).more
      cases hb : x.ownBlock with
      | none => exact .inl rfl
      | some g => exact .inr fun e => h.apartO k x g hk hb e.symm
    · rw [List.getElem?_append_right (by omega)] at hk
      rw [List.getElem?_append_right (by omega), ← hl] at hM
      refine (((hx.inner _ x M hk hM).grown hg ?_).more).lower hlo
      cases hb : x.ownBlock with
      | none => exact .inl rfl
      | some g => exact .inr fun e => by have h1 := L2 hk hb; have h2 := h.outer.lt g e.symm; omega
  · by_cases hkv : k < vs.length
    · rw [List.getElem?_append_left hkv] at hk
      rcases hat with e | e
      · exact h.apartO k x g hk hgx (e ▸ hv)
      · rw [e] at hv; cases hv; have h2 := L1 hk hgx; omega
    · rw [List.getElem?_append_right (by omega)] at hk
      have h2 := L2 hk hgx
      rcases hat with e | e
      · have h1 := h.outer.lt g (e ▸ hv); omega
      · rw [e] at hv; cases hv; omega
  · by_cases hjv : j < vs.length
    · rw [List.getElem?_append_left hjv] at hj
      by_cases hkv : k < vs.length
      · rw [List.getElem?_append_left hkv] at hk
        exact h.apart j k x y g hj hk hgx hgy
      · rw [List.getElem?_append_right (by omega)] at hk
        have h1 := L1 hj hgx; have h2 := L2 hk hgy; omega
    · rw [List.getElem?_append_right (by omega)] at hj
      by_cases hkv : k < vs.length
      · rw [List.getElem?_append_left hkv] at hk
        have h1 := L2 hj hgx; have h2 := L1 hk hgy; omega
      · rw [List.getElem?_append_right (by omega)] at hk
        have := hx.apart _ _ x y g hj hk hgx hgy
        omega
theorem Own.single (w : World) (u : Value) (e : TypeId) : Own (w.alloc (.cells #[u] e)) w.heap.size (w.heap.size + 1) e (.slice (some ⟨w.heap.size, 0, none⟩) 1 1) [u] :=
  ⟨⟨rfl, .inr ⟨w.heap.size, 1, #[u], rfl, Nat.le_refl _, heap_alloc_new w _, Nat.le_refl _, by decide, rfl, rfl⟩⟩, fun g hg => by simp [Value.ownBlock] at hg; omega, by simp⟩
/-- a list of one list -/
theorem OwnLL.single {w : World} {lo hi : Nat} {eo e : TypeId} {u : Value} {L : List Int} (hu : Own w lo hi e u (ints L)) (hlo : lo ≤ w.heap.size) :
    OwnLL (w.alloc (.cells #[u] eo)) lo (w.heap.size + 1) eo e (.slice (some ⟨w.heap.size, 0, none⟩) 1 1) [u] [L] := by
  have hle := hu.le
  have one : ∀ (k : Nat) x, [u][k]? = some x → k = 0 ∧ x = u := fun k x hx => by
    match k, hx with
    | 0, hx => simp at hx; exact ⟨rfl, hx.symm⟩
  refine ⟨(Own.single w u eo).lower hlo, rfl, fun k x M hx hM => ?_, fun k x g hx hg hv => ?_, fun j k x y g hx hy _ _ => ?_⟩
  · obtain ⟨rfl, rfl⟩ := one k x hx
    simp at hM
    subst hM
    have h := hu.alloc (.cells #[x] eo)
    exact ⟨h.row, fun g hg => by have := h.lt g hg; omega, by simp⟩
  · obtain ⟨rfl, rfl⟩ := one k x hx
    have := hu.lt g hg
    simp [Value.ownBlock] at hv
    omega
  · rw [(one j x hx).1, (one k y hy).1]
end Go.Proofs.Ytifhnjnpbpgjfaa
namespace Go.Proofs.Ytifhnjnpbpgjfaa
open Go.RowKit NP
set_option maxRecDepth 8000
set_option linter.unusedVariables false
theorem keepD2 {wr wx w' : World} {p q : Addr} {x y : Value} (h1 : wx.cell? p = some x) (h2 : wx.cell? q = some y) (h3 : Dr wr wx) (hd : Dr wx w') : w'.cell? p = some x ∧ w'.cell? q = some y ∧ Dr wr w' := by
  obtain ⟨n, rfl⟩ := hd
  exact ⟨h1, h2, h3.drewN n⟩


theorem equalLists_same (a b : Option Addr) (ca cb Ba Bb : Nat) (LL : List (List Int)) (w : World) (h : RdLL w Ba a LL) (hm : RdLL w Bb b LL) (hl : LL.length ≤ 4611686018427387904) (hil : ∀ L ∈ LL, L.length ≤ 4611686018427387904) :
    Calls Try.prog 19 #[.slice a LL.length ca, .slice b LL.length cb] w fun e w' => e = .returned (.bool true) ∧ Dr w w' := by
  have hne : ((LL.length : Int) != (LL.length : Int)) = false := by simp
  go_enter Try.func19, Try.ntmps19
  go_wp2
  go_loopw [5] (fun i wr => ∃ k : Nat, k ≤ LL.length ∧ i = .int .i64 k ∧ Dr w wr) (fun i _ => LL.length - (intOf i).toNat)
  case atStart => exact ⟨0, Nat.zero_le _, rfl, Dr.refl _⟩
  case round =>
    obtain ⟨k, hk, rfl, hdr⟩ := hrel
    by_cases hlt : k < LL.length
    · obtain ⟨b1, o1, a1, c1, rfl, -, hc1, hr1, -⟩ := (h.dr hdr).at_ hlt
      obtain ⟨b2, o2, a2, c2, rfl, -, hc2, hr2, -⟩ := (hm.dr hdr).at_ hlt
      have hil' := hil LL[k] (List.getElem_mem hlt)
      clear hil h hm
      generalize LL[k] = M at hc1 hc2 hr1 hr2 hil'
      go_wp2_with fail
      go_region_held3 (fun w' => w'.cell? ⟨b1, o1 + k, none⟩ = some (.slice a1 M.length c1) ∧ w'.cell? ⟨b2, o2 + k, none⟩ = some (.slice a2 M.length c2) ∧ Dr wr w') (first | exact ⟨hc1, hc2, Dr.n wr 1⟩ | exact keepD2 (by assumption) (by assumption) (Dr.n wr 1) hd)
        (first | (go_at_call 42; refine (equalInts_same a1 a2 c1 c2 Ba Bb M _ (hr1.dr (Dr.n wr 1)) (hr2.dr (Dr.n wr 1)) hil').mono ?_; rintro e w' ⟨rfl, hd⟩))
      have hdw : Dr wr w' := by obtain ⟨n, rfl⟩ := hd; exact (Dr.n wr 1).drewN n
      go_wp2_with fail
      go_roundw
      case rel => exact ⟨k + 1, by omega, by go_num, by obtain ⟨n, rfl⟩ := hdw; exact hdr.drewN n⟩
      case measure => simp [intOf]; omega
    · obtain rfl : k = LL.length := by omega
      go_wp2
      go_ret
      exact ⟨rfl, hdr⟩

end Go.Proofs.Ytifhnjnpbpgjfaa
namespace Go.Proofs.Ytifhnjnpbpgjfaa
namespace NP
def allQ : Nat → Nat → Nat → List (List Int)
  | 0, n, _ => if n = 0 then [[]] else []
  | f + 1, n, most => if n = 0 then [[]] else (List.range (min n most)).reverse.flatMap fun i => (allQ f (n - (i + 1)) (i + 1)).map fun R => ((i + 1 : Nat) : Int) :: R
def pieceQ (f n i : Nat) : List (List Int) := (allQ f (n - (i + 1)) (i + 1)).map fun R => ((i + 1 : Nat) : Int) :: R
def upQ (f n top j : Nat) : List (List Int) := ((List.range top).reverse.take j).flatMap (pieceQ f n)
theorem upQ_zero (f n top : Nat) : upQ f n top 0 = [] := by simp [upQ]
theorem upQ_succ (f n top j : Nat) (h : j < top) : upQ f n top (j + 1) = upQ f n top j ++ pieceQ f n (top - 1 - j) := by
  have hl : j < (List.range top).reverse.length := by simpa using h
  unfold upQ
  rw [List.take_succ_eq_append_getElem hl, List.flatMap_append]
  congr 1
  simp
theorem allQ_zero (f most : Nat) : allQ f 0 most = [[]] := by cases f <;> simp [allQ]
theorem allQ_up (f n most : Nat) (h : n ≠ 0) : allQ (f + 1) n most = upQ f n (min n most) (min n most) := by
  have : (allQ (f + 1) n most) = (List.range (min n most)).reverse.flatMap (pieceQ f n) := by
    rw [allQ, if_neg h]; rfl
  rw [this, upQ, List.take_of_length_le (by simp)]
/-- enough fuel is enough -/
theorem allQ_fuel : ∀ (f n most : Nat), n ≤ f → allQ (f + 1) n most = allQ f n most := by
  intro f
  induction f with
  | zero =>
      intro n most h
      obtain rfl : n = 0 := (by omega)
      rw [allQ_zero, allQ_zero]
  | succ f ih =>
    intro n most h
    by_cases h0 : n = 0
    · subst h0; rw [allQ_zero, allQ_zero]
    · rw [allQ_up _ _ _ h0, allQ_up _ _ _ h0]
      have : pieceQ (f + 1) n = pieceQ f n := by
        funext i
        unfold pieceQ
        by_cases hi : n = 0
        · exact absurd hi h0
        · rw [ih (n - (i + 1)) (i + 1) (by omega)]
      unfold upQ
      rw [this]
/-- heads ahead of each -/
theorem map_piece (H : List Int) (f n i : Nat) : (pieceQ f n i).map (fun R => H ++ R) = (allQ f (n - (i + 1)) (i + 1)).map (fun R => (H ++ [((i + 1 : Nat) : Int)]) ++ R) := by
  unfold pieceQ
  rw [List.map_map]
  congr 1
  funext R
  simp
end NP
end Go.Proofs.Ytifhnjnpbpgjfaa
namespace Go.Proofs.Ytifhnjnpbpgjfaa
open Go.RowKit NP
set_option maxRecDepth 8000
set_option linter.unusedVariables false
theorem T_ints : (Try.prog.info? 25).map (fun i => (i.zero, i.size, i.bytes)) = some (some (.slice none 0 0), 1, 24) := by kernel_rfl

theorem slist_zero (a : Option Addr) (c B : Nat) (H : List Int) (most : Int) (w : World) (h : Rd w B a (ints H)) (hB : B ≤ w.heap.size) (hl : H.length ≤ 100) :
    Calls Try.prog 70 #[.slice a H.length c, .int .i64 0, .int .i64 most] w fun e w' => ∃ a' c' vs, e = .returned (.slice a' 1 c') ∧ OwnLL w' w.heap.size w'.heap.size 25 3 (.slice a' 1 c') vs [H] ∧ Below w.heap.size w w' := by
  obtain ⟨i0, hi, hz0, hz1, hz2⟩ := T_int'
  go_enter Try.func70, Try.ntmps70
  go_wp2_with (at_builtin; refine wpList_append_o _ rfl (.tmp 11) (.tmp 12) 25 rfl w.heap.size (w.heap.size + 1) 3 i0 (.int .i64 0) 8 Try.underlying25 hi hz0 hz1 hz2 rfl _ [] rfl (Own.empty w 3) B a H.length c (ints H) rfl (h.alloc hB _) (by simp) (ints_one H) (by simp; unfold maxLen; omega) (by simp; omega) (by simp) ?_; intro v' w1 ho1 hg1 hat1; rw [List.nil_append] at ho1; obtain ⟨a2, c2, rfl⟩ := ho1.form; rw [List.length_map] at ho1 ⊢)
  have hg2 : (w.alloc (.cells #[] 3)).grownBy w1 (some w.heap.size) := hg1
  have hz1' := hg2.size
  simp at hz1'
  have hbl : Below w.heap.size w w1 := below_push (Below.refl _ _) (Nat.le_refl _) hg2 (fun g hg => by cases hg; exact Nat.le_refl _)
  go_ret
  exact ⟨_, _, _, rfl, by have := OwnLL.single (eo := 25) ho1 (by omega); simpa using this, hbl.alloc (by omega) _⟩
end Go.Proofs.Ytifhnjnpbpgjfaa
namespace Go.Proofs.Ytifhnjnpbpgjfaa
open Go.RowKit NP
set_option maxRecDepth 8000
set_option linter.unusedVariables false
set_option linter.unusedSimpArgs false
theorem OwnLL.one {w : World} {lo hi : Nat} {eo e : TypeId} {v : Value} {vs : List Value} {LL : List (List Int)} (h : OwnLL w lo hi eo e v vs LL) : ∀ u ∈ vs, u.oneCell' = true := by
  intro u hu
  obtain ⟨k, hk, rfl⟩ := List.getElem_of_mem hu
  have hl : k < LL.length := by rw [← h.len]; exact hk
  obtain ⟨a, c, e⟩ := (h.inner k _ _ (List.getElem?_eq_getElem hk) (List.getElem?_eq_getElem hl)).form
  rw [e]; rfl
theorem upQ_le (f n top j : Nat) : (upQ f n top j).length ≤ (upQ f n top top).length := by
  unfold upQ
  rw [List.take_of_length_le (i := top) (by simp)]
  have h := List.take_append_drop j (List.range top).reverse
  have h2 : (((List.range top).reverse.take j ++ (List.range top).reverse.drop j).flatMap (pieceQ f n)).length = ((List.range top).reverse.flatMap (pieceQ f n)).length := by rw [h]
  rw [List.flatMap_append, List.length_append] at h2
  omega
def cntQ : Bool := (List.range 17).all fun f => (List.range 17).all fun n => (List.range 17).all fun m => decide ((allQ f n m).length ≤ 400)
set_option maxRecDepth 100000 in
theorem cntQ_all : cntQ = true := by decide +kernel
theorem allQ_le {f n m : Nat} (hf : f ≤ 16) (hn : n ≤ 16) (hm : m ≤ 16) : (allQ f n m).length ≤ 400 := by
  have h := cntQ_all
  unfold cntQ at h
  have h1 := List.all_eq_true.1 h f (by simp; omega)
  have h2 := List.all_eq_true.1 h1 n (by simp; omega)
  have h3 := List.all_eq_true.1 h2 m (by simp; omega)
  simpa using h3
theorem up_next (H : List Int) (f n top q : Nat) (h1 : 1 ≤ q) (hq : q ≤ top) : (upQ f n top (top - q)).map (H ++ ·) ++ (allQ f (n - q) q).map ((H ++ [(q : Int)]) ++ ·) = (upQ f n top (top - (q - 1))).map (H ++ ·) := by
  rw [show top - (q - 1) = (top - q) + 1 from by omega, upQ_succ _ _ _ _ (by omega), List.map_append, show top - 1 - (top - q) = q - 1 from by omega, map_piece, show q - 1 + 1 = q from by omega]
theorem T_ints' : ∃ i, Try.prog.info? 25 = some i ∧ i.zero = some (.slice none 0 0) ∧ i.size = 1 ∧ i.bytes = 24 := info_parts T_ints

def ListsTo (f : Nat) : Prop := ∀ (n : Nat) (a : Option Addr) (c B : Nat) (H : List Int) (most : Nat) (w : World), n ≤ f → H.length + f ≤ 60 → most ≤ 16 → Rd w B a (ints H) → B ≤ w.heap.size →
    Calls Try.prog 70 #[.slice a H.length c, .int .i64 (n : Int), .int .i64 (most : Int)] w fun e w' => ∃ a' c' vs, e = .returned (.slice a' (allQ f n most).length c') ∧ OwnLL w' w.heap.size w'.heap.size 25 3 (.slice a' (allQ f n most).length c') vs ((allQ f n most).map (H ++ ·)) ∧ Below w.heap.size w w'
theorem slist_base (f n : Nat) (hn : n = 0) (a : Option Addr) (c B : Nat) (H : List Int) (most : Nat) (w : World) (hl : H.length ≤ 60) (h : Rd w B a (ints H)) (hB : B ≤ w.heap.size) :
    Calls Try.prog 70 #[.slice a H.length c, .int .i64 (n : Int), .int .i64 (most : Int)] w fun e w' => ∃ a' c' vs, e = .returned (.slice a' (allQ f n most).length c') ∧ OwnLL w' w.heap.size w'.heap.size 25 3 (.slice a' (allQ f n most).length c') vs ((allQ f n most).map (H ++ ·)) ∧ Below w.heap.size w w' := by
  subst hn
  rw [allQ_zero]
  refine (slist_zero a c B H most w h hB (by omega)).mono ?_
  rintro e w' ⟨a', c', vs, rfl, ho, hb⟩
  exact ⟨a', c', vs, rfl, by simpa using ho, hb⟩
set_option maxHeartbeats 4000000 in
theorem slist_step (f : Nat) (hf : f < 16) (ih : ListsTo f) : ListsTo (f + 1) := by
  intro n a c B H most w hn hH hm hrd0 hB
  by_cases h0 : n = 0
  · exact slist_base (f + 1) n h0 a c B H most w (by omega) hrd0 hB
  obtain ⟨i0, hi, hz0, hz1, hz2⟩ := T_int'
  obtain ⟨i1, hj, hy0, hy1, hy2⟩ := T_ints'
  obtain ⟨top, htop⟩ : ∃ top, top = min n most := ⟨_, rfl⟩
  have htn : top ≤ n := by rw [htop]; exact Nat.min_le_left _ _
  have htm : top ≤ most := by rw [htop]; exact Nat.min_le_right _ _
  have hor : top = n ∨ top = most := by rw [htop]; rcases Nat.le_total n most with h | h <;> simp [h]
  have h1n : 1 ≤ n := by omega
  rw [allQ_up f n most h0, ← htop]
  have HALL : Hid ((upQ f n top top).length ≤ 400) := Lib.hid (by have := allQ_le (f := f + 1) (n := n) (m := most) (by omega) (by omega) (by omega); rw [allQ_up f n most h0, ← htop] at this; exact this)
  have hn0 : ((n : Int) == 0) = false := beq_eq_false_iff_ne.2 (by omega)
  have hE := OwnLL.empty w 25 3
  have hbE : Below w.heap.size w (w.alloc (.cells #[] 25)) := (Below.refl _ _).alloc (Nat.le_refl _) _
  have HTOP := Lib.hid htop
  clear htop
  by_cases hlt : most < n
  · have hlt' : (most : Int) < (n : Int) := by omega
    have htq : top = most := by rw [HTOP.out]; omega
    clear hor
    subst htq
    go_enter Try.func70, Try.ntmps70
    go_wp2_with fail
    clear hlt hlt'
    go_loopw [7, 8] (fun v kk wr => ∃ (q : Nat) (a' : Option Addr) (c' : Nat) (vs : List Value), kk = .int .i64 (q : Int) ∧ q ≤ top ∧ v = .slice a' (upQ f n top (top - q)).length c' ∧ Below w.heap.size w wr ∧ OwnLL wr w.heap.size wr.heap.size 25 3 (.slice a' (upQ f n top (top - q)).length c') vs ((upQ f n top (top - q)).map (H ++ ·))) (fun _ kk _ => (intOf kk).toNat)
    case atStart => exact ⟨top, _, _, _, rfl, Nat.le_refl _, by rw [Nat.sub_self, upQ_zero]; rfl, hbE, by rw [Nat.sub_self, upQ_zero]; exact hE.more⟩
    case round =>
      obtain ⟨q, a', c', vs, rfl, hq, rfl, hbel, hout⟩ := hrel
      have HOUT := Lib.hid hout
      have HV : Hid (vs.length = (upQ f n top (top - q)).length) := Lib.hid (by rw [hout.len, List.length_map])
      clear hout hE hbE
      by_cases hq0 : q = 0
      · subst hq0
        go_wp2_with fail
        go_ret
        exact ⟨a', c', vs, rfl, HOUT.out, hbel⟩
      · have hq1 : 1 ≤ q := by omega
        have hq1' : (1 : Int) ≤ (q : Int) := by omega
        have hrd := hrd0.below (hbel.mono hB)
        have hupn := upQ_le f n top (top - q + 1)
        rw [upQ_succ f n top (top - q) (by omega), List.length_append, show top - 1 - (top - q) = q - 1 from by omega] at hupn
        have hpl : (pieceQ f n (q - 1)).length = (allQ f (n - q) q).length := by unfold pieceQ; rw [List.length_map, show q - 1 + 1 = q from by omega]
        rw [hpl] at hupn
        have HUP : Hid ((upQ f n top (top - q)).length + (allQ f (n - q) q).length ≤ 400) := Lib.hid (Nat.le_trans hupn HALL.out)
        clear hupn hpl
        obtain ⟨G, hG⟩ : ∃ G, G = H ++ [(q : Int)] := ⟨_, rfl⟩
        have HGL : Hid (G.length + f ≤ 60) := Lib.hid (by rw [hG]; simp; omega)
        have HG := Lib.hid hG
        clear hG hq0
        have hcast : ((n - q : Nat) : Int) = (n : Int) - (q : Int) := by omega
        go_wp2_with (first
          | (at_builtin; refine wpList_append_o _ rfl (.tmp 23) (.tmp 34) 32 rfl w.heap.size wr.heap.size 25 i1 (.slice none 0 0) 24 Try.underlying32 hj hy0 hy1 hy2 rfl _ vs rfl (HOUT.out.outer.below hb35) w5.heap.size a5 (allQ f (n - q) q).length c5 vsx rfl HX.out.outer.rd (by rw [HX.out.len, List.length_map]) HX.out.one (by rw [HV.out]; unfold maxLen; have := HUP.out; omega) (by rw [HV.out]; have := HUP.out; omega) (by have := hbel.size; have := hb35.size; omega) ?_; intro v' w6 ho6 hg6 hat6; have hall := (HOUT.out.below hb35).appendAll HX.out hb4.size (Nat.le_trans hbel.size hb4.size) ho6 hg6 hat6; have hb6 : Below w.heap.size w w6 := (hbel.trans (hb35.mono hbel.size)).grown hg6 (by have := hbel.size; have := hb35.size; omega) HOUT.out.outer.base; clear ho6 hg6 hat6; rw [HG.out, up_next H f n _ q hq1 hq] at hall; obtain ⟨a6, c6, rfl⟩ := hall.form; rw [List.length_map] at hall ⊢)
          | (go_at_call 70; have ihh := ih (n - q) a4 c4 _ G q _ (by omega) HGL.out (by omega) HO4.out.rd (Nat.le_refl _); rw [hcast] at ihh; refine ihh.mono ?_; rintro e w5 ⟨a5, c5, vsx, rfl, hx5, hb5⟩; clear ihh; have hb35 : Below wr.heap.size wr w5 := hb4.trans (hb5.mono hb4.size); have HX := Lib.hid hx5; clear hx5)
          | (at_builtin; refine wpList_append_o _ rfl (.tmp 26) (.tmp 28) 25 rfl wr.heap.size w3.heap.size 3 i0 (.int .i64 0) 8 Try.underlying25 hi hz0 hz1 hz2 rfl _ (ints H) rfl (HO3.out.alloc _) (w3.heap.size + 1) (some ⟨w3.heap.size, 0, none⟩) 1 1 [.int .i64 (q : Int)] rfl (Rd.one w3 _ _) rfl (by simp; rfl) (by simp; unfold maxLen; omega) (by simp; omega) (by rw [World.size_alloc]; have := hb3.size; omega) ?_; intro v' w4 ho4 hg4 hat4; clear hat4; have hb4 : Below wr.heap.size wr w4 := below_push hb3 (Nat.le_refl _) hg4 HO3.out.base; clear hg4; rw [show ints H ++ [Value.int .i64 (q : Int)] = ints G from by rw [HG.out]; simp [ints]] at ho4; obtain ⟨a4, c4, rfl⟩ := ho4.form; rw [List.length_map] at ho4 ⊢; have HO4 := Lib.hid ho4; clear ho4)
          | (at_builtin; refine wpList_append_o _ rfl (.tmp 24) (.tmp 25) 25 rfl wr.heap.size (wr.heap.size + 1) 3 i0 (.int .i64 0) 8 Try.underlying25 hi hz0 hz1 hz2 rfl _ [] rfl (Own.empty wr 3) B a H.length c (ints H) rfl (hrd.alloc (Nat.le_trans hB hbel.size) _) (by simp) (ints_one H) (by simp; unfold maxLen; omega) (by simp; omega) (by simp) ?_; intro v' w3 ho3 hg3 hat3; rw [List.nil_append] at ho3; clear hat3; obtain ⟨a3, c3, rfl⟩ := ho3.form; rw [List.length_map] at ho3 ⊢; have hb3 : Below wr.heap.size wr w3 := below_push (Below.refl _ _) (Nat.le_refl _) hg3 (fun g hg => by cases hg; exact Nat.le_refl _); clear hg3; have HO3 := Lib.hid ho3; clear ho3))
        go_roundw
        case rel =>
          exact ⟨q - 1, a6, c6, _, by rw [show ((q - 1 : Nat) : Int) = (q : Int) - 1 from by omega], by omega, rfl, hb6, hall⟩
        case measure => simp [intOf]; omega

  · have hlt' : ¬ (most : Int) < (n : Int) := by omega
    have htq : n = top := by rw [HTOP.out]; omega
    clear hor
    subst htq
    go_enter Try.func70, Try.ntmps70
    go_wp2_with fail
    clear hlt hlt'
    go_loopw [7, 8] (fun v kk wr => ∃ (q : Nat) (a' : Option Addr) (c' : Nat) (vs : List Value), kk = .int .i64 (q : Int) ∧ q ≤ n ∧ v = .slice a' (upQ f n n (n - q)).length c' ∧ Below w.heap.size w wr ∧ OwnLL wr w.heap.size wr.heap.size 25 3 (.slice a' (upQ f n n (n - q)).length c') vs ((upQ f n n (n - q)).map (H ++ ·))) (fun _ kk _ => (intOf kk).toNat)
    case atStart => exact ⟨n, _, _, _, rfl, Nat.le_refl _, by rw [Nat.sub_self, upQ_zero]; rfl, hbE, by rw [Nat.sub_self, upQ_zero]; exact hE.more⟩
    case round =>
      obtain ⟨q, a', c', vs, rfl, hq, rfl, hbel, hout⟩ := hrel
      have HOUT := Lib.hid hout
      have HV : Hid (vs.length = (upQ f n n (n - q)).length) := Lib.hid (by rw [hout.len, List.length_map])
      clear hout hE hbE
      by_cases hq0 : q = 0
      · subst hq0
        go_wp2_with fail
        go_ret
        exact ⟨a', c', vs, rfl, HOUT.out, hbel⟩
      · have hq1 : 1 ≤ q := by omega
        have hq1' : (1 : Int) ≤ (q : Int) := by omega
        have hrd := hrd0.below (hbel.mono hB)
        have hupn := upQ_le f n n (n - q + 1)
        rw [upQ_succ f n n (n - q) (by omega), List.length_append, show n - 1 - (n - q) = q - 1 from by omega] at hupn
        have hpl : (pieceQ f n (q - 1)).length = (allQ f (n - q) q).length := by unfold pieceQ; rw [List.length_map, show q - 1 + 1 = q from by omega]
        rw [hpl] at hupn
        have HUP : Hid ((upQ f n n (n - q)).length + (allQ f (n - q) q).length ≤ 400) := Lib.hid (Nat.le_trans hupn HALL.out)
        clear hupn hpl
        obtain ⟨G, hG⟩ : ∃ G, G = H ++ [(q : Int)] := ⟨_, rfl⟩
        have HGL : Hid (G.length + f ≤ 60) := Lib.hid (by rw [hG]; simp; omega)
        have HG := Lib.hid hG
        clear hG hq0
        have hcast : ((n - q : Nat) : Int) = (n : Int) - (q : Int) := by omega
        go_wp2_with (first
          | (at_builtin; refine wpList_append_o _ rfl (.tmp 23) (.tmp 34) 32 rfl w.heap.size wr.heap.size 25 i1 (.slice none 0 0) 24 Try.underlying32 hj hy0 hy1 hy2 rfl _ vs rfl (HOUT.out.outer.below hb35) w5.heap.size a5 (allQ f (n - q) q).length c5 vsx rfl HX.out.outer.rd (by rw [HX.out.len, List.length_map]) HX.out.one (by rw [HV.out]; unfold maxLen; have := HUP.out; omega) (by rw [HV.out]; have := HUP.out; omega) (by have := hbel.size; have := hb35.size; omega) ?_; intro v' w6 ho6 hg6 hat6; have hall := (HOUT.out.below hb35).appendAll HX.out hb4.size (Nat.le_trans hbel.size hb4.size) ho6 hg6 hat6; have hb6 : Below w.heap.size w w6 := (hbel.trans (hb35.mono hbel.size)).grown hg6 (by have := hbel.size; have := hb35.size; omega) HOUT.out.outer.base; clear ho6 hg6 hat6; rw [HG.out, up_next H f n _ q hq1 hq] at hall; obtain ⟨a6, c6, rfl⟩ := hall.form; rw [List.length_map] at hall ⊢)
          | (go_at_call 70; have ihh := ih (n - q) a4 c4 _ G q _ (by omega) HGL.out (by omega) HO4.out.rd (Nat.le_refl _); rw [hcast] at ihh; refine ihh.mono ?_; rintro e w5 ⟨a5, c5, vsx, rfl, hx5, hb5⟩; clear ihh; have hb35 : Below wr.heap.size wr w5 := hb4.trans (hb5.mono hb4.size); have HX := Lib.hid hx5; clear hx5)
          | (at_builtin; refine wpList_append_o _ rfl (.tmp 26) (.tmp 28) 25 rfl wr.heap.size w3.heap.size 3 i0 (.int .i64 0) 8 Try.underlying25 hi hz0 hz1 hz2 rfl _ (ints H) rfl (HO3.out.alloc _) (w3.heap.size + 1) (some ⟨w3.heap.size, 0, none⟩) 1 1 [.int .i64 (q : Int)] rfl (Rd.one w3 _ _) rfl (by simp; rfl) (by simp; unfold maxLen; omega) (by simp; omega) (by rw [World.size_alloc]; have := hb3.size; omega) ?_; intro v' w4 ho4 hg4 hat4; clear hat4; have hb4 : Below wr.heap.size wr w4 := below_push hb3 (Nat.le_refl _) hg4 HO3.out.base; clear hg4; rw [show ints H ++ [Value.int .i64 (q : Int)] = ints G from by rw [HG.out]; simp [ints]] at ho4; obtain ⟨a4, c4, rfl⟩ := ho4.form; rw [List.length_map] at ho4 ⊢; have HO4 := Lib.hid ho4; clear ho4)
          | (at_builtin; refine wpList_append_o _ rfl (.tmp 24) (.tmp 25) 25 rfl wr.heap.size (wr.heap.size + 1) 3 i0 (.int .i64 0) 8 Try.underlying25 hi hz0 hz1 hz2 rfl _ [] rfl (Own.empty wr 3) B a H.length c (ints H) rfl (hrd.alloc (Nat.le_trans hB hbel.size) _) (by simp) (ints_one H) (by simp; unfold maxLen; omega) (by simp; omega) (by simp) ?_; intro v' w3 ho3 hg3 hat3; rw [List.nil_append] at ho3; clear hat3; obtain ⟨a3, c3, rfl⟩ := ho3.form; rw [List.length_map] at ho3 ⊢; have hb3 : Below wr.heap.size wr w3 := below_push (Below.refl _ _) (Nat.le_refl _) hg3 (fun g hg => by cases hg; exact Nat.le_refl _); clear hg3; have HO3 := Lib.hid ho3; clear ho3))
        go_roundw
        case rel =>
          exact ⟨q - 1, a6, c6, _, by rw [show ((q - 1 : Nat) : Int) = (q : Int) - 1 from by omega], by omega, rfl, hb6, hall⟩
        case measure => simp [intOf]; omega

theorem slist_lists : ∀ f : Nat, f ≤ 16 → ListsTo f := by
  intro f
  induction f with
  | zero =>
    intro _ n a c B H most w hn hH hm hrd hB
    exact slist_base 0 n (by omega) a c B H most w (by omega) hrd hB
  | succ f ih => intro hf; exact slist_step f (by omega) (ih (by omega))
end Go.Proofs.Ytifhnjnpbpgjfaa
namespace Go.Proofs.Ytifhnjnpbpgjfaa
open Go.RowKit

/-- block g holds just the cells cs of type t -/
def Blk (w : World) (g : Nat) (t : TypeId) (cs : Array Value) : Prop := w.heap[g]? = some (.cells cs t (0, 0))

section
variable {w w' : World} {g : Nat} {t : TypeId} {cs : Array Value}
theorem Blk.lt (h : Blk w g t cs) : g < w.heap.size := (Array.getElem?_eq_some_iff.1 h).1
theorem Blk.cell (h : Blk w g t cs) (i : Nat) : w.cell? ⟨g, i, none⟩ = cs[i]? := cell_of_row w g i cs t (0, 0) h
theorem Blk.free (h : Blk w g t cs) (i : Nat) : w.frozen? ⟨g, i, none⟩ = false := frozen_of_row w g i cs t h
theorem Blk.new (w : World) (t : TypeId) (cs : Array Value) : Blk (w.alloc (.cells cs t)) w.heap.size t cs := heap_alloc_new w _
theorem Blk.alloc (h : Blk w g t cs) (o : Obj) : Blk (w.alloc o) g t cs := (Below.heap_alloc w o g h.lt).trans h
theorem Blk.set (h : Blk w g t cs) (i : Nat) (u : Value) : Blk (w.setCell ⟨g, i, none⟩ u) g t (cs.setIfInBounds i u) := heap_setCell_same w g i cs t u h
theorem Blk.off (h : Blk w g t cs) {p : Addr} (hp : g ≠ p.block) (u : Value) : Blk (w.setCell p u) g t cs := (Below.heap_setCell w p u g hp).trans h
theorem Blk.below {B : Nat} (h : Blk w g t cs) (hb : Below B w w') (hg : g < B) : Blk w' g t cs := (hb.block g hg).trans h
theorem Blk.drewN (h : Blk w g t cs) (n : Nat) : Blk (w.drewN n) g t cs := h
theorem Blk.drew (h : Blk w g t cs) : Blk w.drew g t cs := h
theorem Blk.grown {row : Option Nat} (h : Blk w g t cs) (hb : w.grownBy w' row) (hg : some g ≠ row) : Blk w' g t cs := (hb.block g h.lt hg).trans h
theorem Blk.row {vs : Array Value} (h : Blk w g t cs) : Blk (w.setRow g vs) g t vs := setRow_heap w g cs vs t (0, 0) h
theorem Blk.rowOff {g' : Nat} {vs : Array Value} (h : Blk w g t cs) (hg : g ≠ g') : Blk (w.setRow g' vs) g t cs := (setRow_other w g' g vs hg).trans h
theorem below_setRow' {B : Nat} {a : World} (h : Below B a w) (hg : B ≤ g) (vs : Array Value) : Below B a (w.setRow g vs) := below_setRow h hg vs
end

section
variable {P : Program}
theorem run_storeVar_row (w : World) (g : Nat) (t ty : TypeId) (cs vs : Array Value) (hg : Blk w g t cs) (hi : (P.info? ty).map (·.size) = some vs.size) (hs : vs.size = cs.size) (h1 : ∀ v ∈ vs.toList, v.oneCell' = true) :
    (storeVar ty ⟨g, 0, none⟩ (.agg vs)).run P w = .ok () (w.setRow g vs) := by
  cases hq : P.info? ty with
  | none => simp [hq] at hi
  | some i =>
    have hz : i.size = vs.size := by simpa [hq] using hi
    have hst := run_storeCells_at P g 0 t vs.toList 0 cs w hg (by simp; omega) h1
    simp only [Nat.add_zero, List.take_zero, List.nil_append, Nat.zero_add, Array.length_toList] at hst
    rw [List.drop_eq_nil_of_le (by simp; omega), List.append_nil, Array.toArray_toList] at hst
    simp [storeVar, Sem.run_bind, sizeOf, typeInfo, hq, hz, Value.cells, hst]

theorem wpList_store_row {ops : Array Oper} {rest : List Oper} {o : Oper} {a : Act} {w : World} {Q : Exit → Act → World → Prop} (hgd : o.guard = none) (ty : TypeId) (x v : Operand) (ho : o.op = .store ty x v)
    (g : Nat) (hx : a.eval x = .pointer (some ⟨g, 0, none⟩)) (vs : Array Value) (hv : a.eval v = .agg vs) (t : TypeId) (cs : Array Value) (hg : Blk w g t cs)
    (hi : (P.info? ty).map (·.size) = some vs.size) (hs : vs.size = cs.size) (h1 : ∀ v ∈ vs.toList, v.oneCell' = true)
    (h : wpList P ops Q rest (a.put o.dst undef) (w.setRow g vs)) : wpList P ops Q (o :: rest) a w :=
  wpList_plain hgd fun _ hK => by
    unfold Oper.wp execOp
    simp only [ho, hx, hv, Instr.storeAt, Instr.sureAddr, Sem.run_bind, Sem.run_pure, Result.andThen_ok, run_storeVar_row w g t ty cs vs hg hi hs h1]
    exact hK _ _ h

theorem run_index_row (T e : TypeId) (d : TypeDesc) (n : Nat) (hT : P.underlying T = some (.array n e)) (he : P.underlying e = some d) (hd : (match d with | .struct _ | .array _ _ => true | _ => false) = false) (hc : (P.info? e).map (·.size) = some 1)
    (cs : Array Value) (k : Nat) (v : Value) (hk : k < n) (hv : cs[k]? = some v) (kd : IntKind) (w : World) : (Instr.index T (.agg cs) (.int kd k)).run P w = .ok v w := by
  cases hq : P.info? e with
  | none => simp [hq] at hc
  | some i =>
    have hz : i.size = 1 := by simpa [hq] using hc
    have hagg : ∀ w : World, (isAgg e).run P w = .ok false w := by
      intro w
      unfold isAgg
      rw [Sem.run_bind, run_underlying he w]
      cases d <;> simp_all
    simp [Instr.index, asIntOf, Sem.run_bind, run_underlying hT, sizeOf, typeInfo, hq, hz, part, hagg, hv]
    intro hnk
    omega
theorem results_cell_tmp {fn : Func} {p q : Tmp} {ty : TypeId} (h : fn.results = #[.cell p ty, .tmp q]) (tmps : Array Value) (w : World) (g : Nat) (t : TypeId) (cs : Array Value) (fr : Nat × Nat) (d : TypeDesc)
    (hp : tmps.getD p undef = .pointer (some ⟨g, 0, none⟩)) (hg : w.heap[g]? = some (.cells cs t fr))
    (hu : P.underlying ty = some d) (hd : (match d with | .struct _ | .array _ _ => true | _ => false) = true) (hi : (P.info? ty).map (·.size) = some cs.size) :
    (results fn tmps).run P w = .ok (.tuple #[.agg cs, tmps.getD q undef]) w := by
  have hp' : tmps[p]?.getD undef = .pointer (some ⟨g, 0, none⟩) := by simpa using hp
  simp [results, h, hp', asAddr, run_loadVar_row w g t ty cs fr d hg hu hd hi]
end

/-- a list of numbers as an array's cells -/
def arr (D : List Int) : Array Value := (ints D).toArray
theorem arr_size (D : List Int) : (arr D).size = D.length := by simp [arr]
theorem arr_get (D : List Int) (k : Nat) (h : k < D.length) : (arr D)[k]? = some (.int .i64 D[k]) := by simp [arr, h]
theorem arr_one (D : List Int) : ∀ v ∈ (arr D).toList, v.oneCell' = true := by
  intro v hv
  simp [arr] at hv
  obtain ⟨x, -, rfl⟩ := hv
  rfl
theorem arr_set (D : List Int) (k : Nat) (x : Int) : (arr D).setIfInBounds k (.int .i64 x) = arr (D.set k x) := by
  simp [arr, ints, List.map_set]
end Go.Proofs.Ytifhnjnpbpgjfaa
namespace Go.Proofs.Ytifhnjnpbpgjfaa
open Go.RowKit
theorem Blk.own {w : World} {g lo : Nat} {e : TypeId} {vs : List Value} (h : Blk w g e vs.toArray) (hlo : lo ≤ g) (hm : vs.length ≤ maxLen) : Own w lo w.heap.size e (.slice (some ⟨g, 0, none⟩) vs.length vs.length) vs :=
  ⟨⟨by simp, .inr ⟨g, vs.length, vs.toArray, rfl, hlo, h, Nat.le_refl _, hm, by simp, by simp⟩⟩, fun q hq => by have := h.lt; simp [Value.ownBlock] at hq; omega, Nat.le_refl _⟩

/-- make([]int, n): a block of n zeros: an equation for every world -/
theorem run_make_ints {P : Program} (t e : TypeId) (i : TypeInfo) (h1 : P.underlying t = some (.slice e)) (h2 : P.info? e = some i) (h3 : i.zero = some (.int .i64 0)) (h4 : i.size = 1) (h5 : i.bytes = 8)
    (n : Nat) (hn : n ≤ 4194304) (w : World) :
    (Instr.makeSlice t (.int .i64 n) (.int .i64 n)).run P w = .ok (.slice (some ⟨w.heap.size, 0, none⟩) n n) (w.alloc (.cells (arr (List.replicate n 0)) e)) := by
  have hrun := run_make (P := P) w t e i (.int .i64 0) h1 h2 h3 .i64 .i64 n n (by omega) (by omega) (by rw [h5]; omega) (by omega)
  rw [h4] at hrun
  simp only [Int.toNat_natCast, Nat.mul_one] at hrun
  rw [hrun]
  congr 3
  apply Array.toList_inj.1
  simp [Value.cells, toList_madeCells_one, arr]
end Go.Proofs.Ytifhnjnpbpgjfaa
namespace Go.Proofs.Ytifhnjnpbpgjfaa
open Go.RowKit NP
set_option maxRecDepth 8000
set_option linter.unusedVariables false
theorem T_info35 : (Try.prog.info? 62).map (·.size) = some 16 := by kernel_rfl

theorem diagramOf_any (a : Option Addr) (c B : Nat) (L : List Int) (w : World) (h : Rd w B a (ints L)) (hB : B ≤ w.heap.size) (hl : L.length ≤ 4611686018427387904) :
    Calls Try.prog 45 #[.slice a L.length c] w fun e w' => e = .returned (.tuple #[.agg (arr (dg L)), .bool (valid L)]) ∧ Below w.heap.size w w' := by
  go_enter Try.func45, Try.ntmps45
  go_wp2
  go_loopw [5, 10] (fun l i wr => ∃ k : Nat, k ≤ L.length ∧ i = .int .i64 k ∧ l = .int .i64 (16 - sumL (L.take k)) ∧ valid (L.take k) = true ∧ Below w.heap.size w wr ∧
    Blk wr w.heap.size 62 (arr (List.replicate 16 0)) ∧ Blk wr (w.heap.size + 1) 62 (arr (pad (L.take k)))) (fun _ i _ => L.length - (intOf i).toNat)
  case atStart =>
    refine ⟨0, Nat.zero_le _, rfl, rfl, rfl, ?_, ?_, ?_⟩
    · exact ((Below.refl _ _).alloc (Nat.le_refl _) _).alloc (by simp) _
    · exact (Blk.new w _ _).alloc _
    · have e := Blk.new (w.alloc (.cells (arr (List.replicate 16 0)) 62)) 62 (arr (pad (L.take 0)))
      rw [World.size_alloc] at e
      exact e
  case round =>
    obtain ⟨k, hk, rfl, rfl, hv, hbel, hb2, hb4⟩ := hrel
    have hbd := valid_bd hv
    by_cases hlt : k < L.length
    · have hR := (h.more hB).below hbel
      obtain ⟨b, o, rfl, hbB, hc⟩ := hR.at_ hlt
      have HN := Lib.hid (valid_stop hlt hv)
      have HY := Lib.hid (valid_next hlt hv)
      have HV := Lib.hid hv
      clear hv
      by_cases hok : 1 ≤ L[k] ∧ L[k] ≤ 16 - sumL (L.take k) ∧ (0 < k → L[k] ≤ L[k - 1]'(by omega))
      · have hvt := Lib.hid (HY.out hok.1 hok.2.1 hok.2.2)
        obtain ⟨h1, h2, h3⟩ := hok
        clear HN HY
        have hk16 : k < 16 := by
          have := (valid_bd hvt.out).2.2.2
          rw [List.length_take_of_le (by omega)] at this
          omega
        have hst := sumL_take_succ L k hlt
        have HST := Lib.hid hst
        clear hst
        have hcz : wr.cell? ⟨w.heap.size + 1, k, none⟩ = some ((arr (pad (L.take k)))[k]?.getD undef) := by
          rw [hb4.cell k]
          have : k < (arr (pad (L.take k))).size := by rw [arr_size, pad_len (by simp; omega)]; omega
          simp [this]
        have hfz : wr.frozen? ⟨w.heap.size + 1, k, none⟩ = false := hb4.free k
        have hpad : (arr (pad (L.take k))).setIfInBounds k (.int .i64 L[k]) = arr (pad (L.take (k + 1))) := by
          rw [arr_set, pad_set hlt hk16]
        have HPAD := Lib.hid hpad
        clear hpad
        have d1 : decide (L[k] < 1) = false := by simp; omega
        have d2 : decide (16 - sumL (L.take k) < L[k]) = false := by simp; omega
        by_cases h0 : k = 0
        · subst h0
          have hc' : wr.cell? ⟨b, o, none⟩ = some (.int .i64 L[0]) := hc
          clear h3
          have hz : sumL ([] : List Int) = 0 := rfl
          go_wp2_with fail
          go_roundw
          case rel =>
            refine ⟨0 + 1, by omega, by go_num, congrArg (Value.int .i64) (by rw [HST.out]; simp [sumL]), hvt.out, hbel.setCell (by simp) _, hb2.off (by simp) _, ?_⟩
            have e := hb4.set 0 (.int .i64 L[0])
            rw [HPAD.out] at e
            exact e
          case measure => simp [intOf]; omega
        · have hk1 : k - 1 < L.length := by omega
          obtain ⟨b', o', e', -, hc2⟩ := hR.at_ hk1
          injection e' with e'; injection e' with e1 e2; subst e1 e2
          have h4 : (0 : Int) < k := by omega
          have h7 : 1 ≤ k := by omega
          have h5 : 0 < k := by omega
          have h3' := h3 h5
          clear h3
          have d3 : decide (L[k - 1]'(by omega) < L[k]) = false := by simp; omega
          go_wp2_with fail
          go_roundw
          case rel =>
            refine ⟨k + 1, by omega, by go_num, by rw [HST.out]; go_num, hvt.out, hbel.setCell (by simp) _, hb2.off (by simp) _, ?_⟩
            have e := hb4.set k (.int .i64 L[k])
            rw [HPAD.out] at e
            exact e
          case measure => simp [intOf]; omega
      · have hvf := Lib.hid (HN.out hok)
        have hok' := Lib.hid hok
        clear HN HY hok
        by_cases h1 : 1 ≤ L[k]
        · by_cases h2 : L[k] ≤ 16 - sumL (L.take k)
          · have h0 : 0 < k := by
              rcases Nat.eq_zero_or_pos k with h0 | h0
              · exact absurd ⟨h1, h2, fun h => by omega⟩ hok'.out
              · exact h0
            have h3 : L[k - 1]'(by omega) < L[k] := by
              rcases Int.lt_or_le (L[k - 1]'(by omega)) L[k] with h3 | h3
              · exact h3
              · exact absurd ⟨h1, h2, fun _ => h3⟩ hok'.out
            have hk1 : k - 1 < L.length := by omega
            obtain ⟨b', o', e', -, hc2⟩ := hR.at_ hk1
            injection e' with e'; injection e' with e1 e2; subst e1 e2
            have h4 : (0 : Int) < k := by omega
            have h7 : 1 ≤ k := by omega
            have d1 : decide (L[k] < 1) = false := by simp; omega
            have d2 : decide (16 - sumL (L.take k) < L[k]) = false := by simp; omega
            have d3 : decide (L[k - 1]'(by omega) < L[k]) = true := by simp; omega
            go_wp2_with (refine wpList_store_row rfl 62 (.tmp 2) (.tmp 35) rfl w.heap.size rfl (arr (List.replicate 16 0)) rfl 62 _ hb2 T_info35 rfl (arr_one _) ?_)
            refine bodyPost_ret (results_cell_tmp rfl _ _ w.heap.size 62 (arr (List.replicate 16 0)) (0, 0) _ rfl hb2.row Try.underlying62 rfl T_info35) rfl ?_
            rw [hvf.out, dg_no hvf.out]
            exact ⟨rfl, below_setRow' hbel (Nat.le_refl _) _⟩
          · have h2' : 16 - sumL (L.take k) < L[k] := by omega
            clear h2
            have d1 : decide (L[k] < 1) = false := by simp; omega
            have d2 : decide (16 - sumL (L.take k) < L[k]) = true := by simp; omega
            go_wp2_with (refine wpList_store_row rfl 62 (.tmp 2) (.tmp 35) rfl w.heap.size rfl (arr (List.replicate 16 0)) rfl 62 _ hb2 T_info35 rfl (arr_one _) ?_)
            refine bodyPost_ret (results_cell_tmp rfl _ _ w.heap.size 62 (arr (List.replicate 16 0)) (0, 0) _ rfl hb2.row Try.underlying62 rfl T_info35) rfl ?_
            rw [hvf.out, dg_no hvf.out]
            exact ⟨rfl, below_setRow' hbel (Nat.le_refl _) _⟩
        · have h1' : L[k] < 1 := by omega
          clear h1
          go_wp2_with (refine wpList_store_row rfl 62 (.tmp 2) (.tmp 35) rfl w.heap.size rfl (arr (List.replicate 16 0)) rfl 62 _ hb2 T_info35 rfl (arr_one _) ?_)
          refine bodyPost_ret (results_cell_tmp rfl _ _ w.heap.size 62 (arr (List.replicate 16 0)) (0, 0) _ rfl hb2.row Try.underlying62 rfl T_info35) rfl ?_
          rw [hvf.out, dg_no hvf.out]
          exact ⟨rfl, below_setRow' hbel (Nat.le_refl _) _⟩
    · obtain rfl : k = L.length := by omega
      have ht : L.take L.length = L := List.take_of_length_le (Nat.le_refl _)
      rw [ht] at hv hb4
      have hvf := Lib.hid hv
      clear hv
      have hi16 : (Try.prog.info? 62).map (·.size) = some (arr (pad L)).size := by rw [arr_size, pad_len (valid_bd hvf.out).2.2.2]; exact T_info35
      have hsz : (arr (pad L)).size = (arr (List.replicate 16 0)).size := by rw [arr_size, arr_size, pad_len (valid_bd hvf.out).2.2.2]; rfl
      go_wp2_with (first | (refine wpList_load_row rfl 62 (.tmp 4) rfl (w.heap.size + 1) rfl 62 (arr (pad L)) (0, 0) _ hb4 Try.underlying62 rfl hi16 ?_) | (refine wpList_store_row rfl 62 (.tmp 2) (.tmp 43) rfl w.heap.size rfl (arr (pad L)) rfl 62 _ hb2 hi16 hsz (arr_one _) ?_))
      refine bodyPost_ret (results_cell_tmp rfl _ _ w.heap.size 62 (arr (pad L)) (0, 0) _ rfl hb2.row Try.underlying62 rfl hi16) rfl ?_
      rw [hvf.out, dg_yes hvf.out]
      exact ⟨rfl, below_setRow' hbel (Nat.le_refl _) _⟩
end Go.Proofs.Ytifhnjnpbpgjfaa
