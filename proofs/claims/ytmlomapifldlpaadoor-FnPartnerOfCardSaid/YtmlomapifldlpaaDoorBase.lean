/-
  Words for memory: what is readable (Rd), what is the call's own (Own), append onto it.
-/
import Derived.WalkKit
import Derived.WalkSmall
import Derived.Handy
import Derived.Laws.CopyOwn
import Derived.Maps.AppendAt
import Derived.Deep.Draws
namespace Go.Proofs.YtmlomapifldlpaaDoor
open Go.RowKit

def Rd (w : World) (B : Nat) (a : Option Addr) (vs : List Value) : Prop :=
  vs ≠ [] → ∃ b o, a = some ⟨b, o, none⟩ ∧ b < B ∧ ∀ k v, vs[k]? = some v → w.cell? ⟨b, o + k, none⟩ = some v

theorem ret_i64 {a b : Int} (h : a = b) : Ending.returned (.int .i64 a) = .returned (.int .i64 b) := by rw [h]
theorem ret_bool {a b : Bool} (h : a = b) : Ending.returned (.bool a) = .returned (.bool b) := by rw [h]
abbrev ints (L : List Int) : List Value := L.map (Value.int .i64)

theorem Rd.at_ {w : World} {B : Nat} {a : Option Addr} {L : List Int} (h : Rd w B a (ints L)) {k : Nat} (hk : k < L.length) :
    ∃ b o, a = some ⟨b, o, none⟩ ∧ b < B ∧ w.cell? ⟨b, o + k, none⟩ = some (.int .i64 L[k]) := by
  obtain ⟨b, o, h1, h2, h3⟩ := h (by intro e; simp at e; subst e; simp at hk)
  exact ⟨b, o, h1, h2, h3 k _ (by simp [hk])⟩

theorem Rd.below {w w' : World} {B : Nat} {a : Option Addr} {vs : List Value} (h : Rd w B a vs) (hb : Below B w w') : Rd w' B a vs := fun hne => by
  obtain ⟨b, o, h1, h2, h3⟩ := h hne
  exact ⟨b, o, h1, h2, fun k v hv => (hb.cell (p := ⟨b, o + k, none⟩) h2).trans (h3 k v hv)⟩

theorem Rd.more {w : World} {B B' : Nat} {a : Option Addr} {vs : List Value} (h : Rd w B a vs) (hB : B ≤ B') : Rd w B' a vs := fun hne => by
  obtain ⟨b, o, h1, h2, h3⟩ := h hne
  exact ⟨b, o, h1, by omega, h3⟩

/-- nothing has turned but draws -/
def Dr (w w' : World) : Prop := ∃ n, w' = w.drewN n
theorem Dr.refl (w : World) : Dr w w := ⟨0, rfl⟩
theorem Dr.n (w : World) (n : Nat) : Dr w (w.drewN n) := ⟨n, rfl⟩
theorem Dr.trans {a b c : World} (h : Dr a b) (k : Dr b c) : Dr a c := by
  obtain ⟨n, rfl⟩ := h
  obtain ⟨m, rfl⟩ := k
  exact ⟨n + m, by rw [World.drewN_drewN]⟩
theorem Dr.drewN {a b : World} (h : Dr a b) (n : Nat) : Dr a (b.drewN n) := h.trans ⟨n, rfl⟩
theorem Dr.below {w w' : World} (h : Dr w w') (B : Nat) : Below B w w' := by
  obtain ⟨n, rfl⟩ := h
  exact ⟨rfl, rfl, rfl, Nat.le_refl _, fun _ _ => rfl⟩
theorem Dr.size {w w' : World} (h : Dr w w') : w'.heap.size = w.heap.size := by
  obtain ⟨n, rfl⟩ := h
  rfl
theorem Rd.dr {w w' : World} {B : Nat} {a : Option Addr} {vs : List Value} (h : Rd w B a vs) (hb : Dr w w') : Rd w' B a vs := h.below (hb.below B)

/-- a row of the call's own in a block from lo up to hi -/
structure Own (w : World) (lo hi : Nat) (e : TypeId) (v : Value) (vs : List Value) : Prop where
  row : w.ownsRow lo e 1 v vs.length vs
  lt : ∀ g, v.ownBlock = some g → g < hi
  le : hi ≤ w.heap.size

section
variable {w w' : World} {lo hi : Nat} {e : TypeId} {v : Value} {vs : List Value}

theorem ownsRow_keep {n : Nat} (h : w.ownsRow lo e 1 v n vs) (hk : ∀ g, v.ownBlock = some g → w'.heap[g]? = w.heap[g]?) : w'.ownsRow lo e 1 v n vs := by
  refine ⟨h.1, ?_⟩
  rcases h.2 with hn | ⟨g, cap, cur, rfl, hb, hg, rest⟩
  · exact .inl hn
  · exact .inr ⟨g, cap, cur, rfl, hb, (hk g rfl).trans hg, rest⟩

theorem Own.keep (h : Own w lo hi e v vs) (hs : w.heap.size ≤ w'.heap.size) (hk : ∀ g, v.ownBlock = some g → w'.heap[g]? = w.heap[g]?) : Own w' lo hi e v vs :=
  ⟨ownsRow_keep h.row hk, h.lt, Nat.le_trans h.le hs⟩
theorem Own.below (h : Own w lo hi e v vs) (hb : Below hi w w') : Own w' lo hi e v vs :=
  h.keep hb.size fun g hg => hb.block g (h.lt g hg)
theorem Own.alloc (h : Own w lo hi e v vs) (o : Obj) : Own (w.alloc o) lo hi e v vs :=
  h.keep (by simp) fun g hg => Below.heap_alloc w o g (Nat.lt_of_lt_of_le (h.lt g hg) h.le)
theorem Own.drew (h : Own w lo hi e v vs) : Own w.drew lo hi e v vs := ⟨h.row, h.lt, h.le⟩
theorem Own.drewN (h : Own w lo hi e v vs) (n : Nat) : Own (w.drewN n) lo hi e v vs := ⟨h.row, h.lt, h.le⟩
theorem Own.more (h : Own w lo hi e v vs) : Own w lo w.heap.size e v vs := ⟨h.row, fun g hg => Nat.lt_of_lt_of_le (h.lt g hg) h.le, Nat.le_refl _⟩
theorem Own.form (h : Own w lo hi e v vs) : ∃ a c, v = .slice a vs.length c := by
  rcases h.row.2 with ⟨h1, h2⟩ | ⟨g, cap, cur, h1, _⟩
  · exact ⟨none, 0, by rw [h1, h2]⟩
  · exact ⟨_, _, h1⟩
theorem Own.rd {a : Option Addr} {n c : Nat} (h : Own w lo hi e (.slice a n c) vs) : Rd w hi a vs := fun hne => by
  rcases h.row.2 with ⟨h1, h2⟩ | ⟨g, cap, cur, hv, _, hg, _, _, _, ht⟩
  · exact absurd (List.eq_nil_of_length_eq_zero h2) hne
  · injection hv with ha hn hc
    subst ha
    refine ⟨g, 0, rfl, h.lt g rfl, fun k v hk => ?_⟩
    rw [cell_of_row w g (0 + k) cur e (0, 0) hg, Nat.zero_add]
    rw [← ht, List.getElem?_take] at hk
    split at hk
    · simpa using hk
    · cases hk
theorem Own.nil (w : World) (lo : Nat) (e : TypeId) : Own w lo w.heap.size e (.slice none 0 0) [] :=
  ⟨World.ownsRow_nil w lo e 1, fun g hg => by simp [Value.ownBlock] at hg, Nat.le_refl _⟩
theorem Own.lower {lo' : Nat} (h : Own w lo hi e v vs) (hl : lo' ≤ lo) : Own w lo' hi e v vs :=
  ⟨⟨h.row.1, h.row.2.imp id fun ⟨g, cap, cur, h1, h2, h3⟩ => ⟨g, cap, cur, h1, Nat.le_trans hl h2, h3⟩⟩, h.lt, h.le⟩
theorem Own.len {a : Option Addr} {n c : Nat} (h : Own w lo hi e (.slice a n c) vs) : n = vs.length := by
  obtain ⟨a', c', hv⟩ := h.form
  injection hv
end

theorem Own.at_ {w : World} {lo hi : Nat} {e : TypeId} {v : Value} {vs : List Value} (h : Own w lo hi e v vs) {k : Nat} (hk : k < vs.length) :
    ∃ g c, v = .slice (some ⟨g, 0, none⟩) vs.length c ∧ lo ≤ g ∧ g < hi ∧ w.cell? ⟨g, k, none⟩ = some vs[k] ∧ w.frozen? ⟨g, k, none⟩ = false := by
  rcases h.row.2 with ⟨h1, h2⟩ | ⟨g, cap, cur, rfl, hb, hg, _, _, _, ht⟩
  · omega
  · refine ⟨g, cap, rfl, hb, h.lt g rfl, ?_, frozen_of_row w g k cur e hg⟩
    rw [cell_of_row w g k cur e (0, 0) hg]
    have h3 : vs[k]? = some vs[k] := List.getElem?_eq_getElem hk
    have h4 : (cur.toList.take (vs.length * 1))[k]? = some vs[k] := by rw [ht]; exact h3
    rw [List.getElem?_take] at h4
    split at h4
    · simpa using h4
    · cases h4
theorem Own.spot {w : World} {lo hi : Nat} {e : TypeId} {a : Option Addr} {n c : Nat} {vs : List Value} (h : Own w lo hi e (.slice a n c) vs) {k : Nat} (hk : k < vs.length) :
    ∃ g u, a = some ⟨g, 0, none⟩ ∧ lo ≤ g ∧ g < hi ∧ w.cell? ⟨g, k, none⟩ = some u ∧ w.frozen? ⟨g, k, none⟩ = false := by
  obtain ⟨g, c', h1, h2, h3, h4, h5⟩ := h.at_ hk
  injection h1 with h1 _ _
  exact ⟨g, _, h1, h2, h3, h4, h5⟩
theorem Own.set {w : World} {lo hi : Nat} {e : TypeId} {g n c : Nat} {vs : List Value} (h : Own w lo hi e (.slice (some ⟨g, 0, none⟩) n c) vs) (k : Nat) (u : Value) : Own (w.setCell ⟨g, k, none⟩ u) lo hi e (.slice (some ⟨g, 0, none⟩) n c) (vs.set k u) := by
  have hn := h.len
  subst hn
  have h1 := h.row.stored k u
  refine ⟨?_, h.lt, ?_⟩
  · rw [List.length_set]; exact h1.1
  · have := h.le; simpa [World.setCell] using this
theorem Own.off {w : World} {lo hi : Nat} {e : TypeId} {v : Value} {vs : List Value} (h : Own w lo hi e v vs) {p : Addr} (hp : ∀ g, v.ownBlock = some g → g ≠ p.block) (u : Value) : Own (w.setCell p u) lo hi e v vs :=
  h.keep (by simp [World.setCell]) fun g hg => Below.heap_setCell w p u g (hp g hg)
theorem Own.grown {w w' : World} {lo hi : Nat} {e : TypeId} {v : Value} {vs : List Value} {row : Option Nat} (h : Own w lo hi e v vs) (hg : w.grownBy w' row) (hr : v.ownBlock = none ∨ v.ownBlock ≠ row) : Own w' lo hi e v vs :=
  h.keep hg.size fun g hgv => hg.block g (Nat.lt_of_lt_of_le (h.lt g hgv) h.le) (by
    rcases hr with hr | hr
    · rw [hr] at hgv; cases hgv
    · rw [← hgv]; exact hr)
theorem Own.dr {w w' : World} {lo hi : Nat} {e : TypeId} {v : Value} {vs : List Value} (h : Own w lo hi e v vs) (hd : Dr w w') : Own w' lo hi e v vs := h.below (hd.below hi)

/-- append to a row of the call's own, out of whatever can be read -/
theorem run_append_o {P : Program} (w : World) (lo hi : Nat) (t ty e : TypeId) (i : TypeInfo) (z : Value) (bytes : Nat) (ht : P.underlying t = some (.slice e)) (hi0 : P.info? e = some i) (hz : i.zero = some z)
    (hsize : i.size = 1) (hby : i.bytes = bytes) (hzs : z.cells.size = 1) {v : Value} {vs : List Value} (hown : Own w lo hi e v vs)
    {B : Nat} {A : Option Addr} {m c : Nat} {news : List Value} (hr : Rd w B A news) (hm : m = news.length) (h1 : ∀ u ∈ news, u.oneCell' = true)
    (h63 : vs.length + m ≤ maxLen) (hbytes : (vs.length + m) * bytes ≤ 140737488355328) (hlo : lo ≤ w.heap.size) :
    ∃ v' w', (Builtin.append_ #[t, t] ty #[v, .slice A m c]).run P w = .ok v' w' ∧ Own w' lo w'.heap.size e v' (vs ++ news) ∧ w.grownBy w' v.ownBlock ∧ (v'.ownBlock = v.ownBlock ∨ v'.ownBlock = some w.heap.size) := by
  subst hm
  by_cases hn : news = []
  · subst hn
    refine ⟨v, w, ?_, by simpa using hown.more, World.grownBy.refl w _, .inl rfl⟩
    rcases hown.row.2 with ⟨rfl, h0⟩ | ⟨g, cap, cur, rfl, _, _, hnc, _⟩
    · simp [Builtin.append_, run_underlying ht, sizeOf, typeInfo, hi0, Builtin.lenOf, Builtin.firstCells]
      cases A <;> simp [loadCells, loadCellsFrom]
    · simp [Builtin.append_, run_underlying ht, sizeOf, typeInfo, hi0, Builtin.lenOf, Builtin.firstCells, hnc, storeCells]
      cases A <;> simp [loadCells, loadCellsFrom, storeCells]
  · obtain ⟨b, o, rfl, hb, hc⟩ := hr hn
    have hcells : ∀ j u, news[j]? = some u → w.cell? ((⟨b, o, none⟩ : Addr).add j) = some u := by
      intro j u hu
      rw [Addr.add_lit]
      exact hc j u hu
    obtain ⟨v', w', hrun, h2, h3, _, h5⟩ := run_append_own_at (P := P) w lo t ty e i z 1 bytes ht hi0 hz hsize hby hzs (by omega) v _ vs hown.row ⟨b, o, none⟩ news.length c news (by simp) hcells h1 h63 hbytes hlo
    refine ⟨v', w', hrun, ⟨by simpa using h2, fun g hg => (h2.lt g hg).2, Nat.le_refl _⟩, h3, h5⟩

theorem wpList_append_o {P : Program} (w : World) {ops : Array Oper} {rest : List Oper} {o : Oper} {a : Act} {Q : Exit → Act → World → Prop} (hgd : o.guard = none) (s x : Operand) (t : TypeId)
    (ho : o.op = .call { callee := .builtin .append, args := #[s, x], argTypes := #[t, t] })
    (lo hi : Nat) (e : TypeId) (i : TypeInfo) (z : Value) (bytes : Nat) (ht : P.underlying t = some (.slice e)) (hi0 : P.info? e = some i) (hz : i.zero = some z)
    (hsize : i.size = 1) (hby : i.bytes = bytes) (hzs : z.cells.size = 1) (v : Value) (vs : List Value) (hs : a.eval s = v) (hown : Own w lo hi e v vs)
    (B : Nat) (A : Option Addr) (m c : Nat) (news : List Value) (hx : a.eval x = .slice A m c) (hr : Rd w B A news) (hm : m = news.length) (h1 : ∀ u ∈ news, u.oneCell' = true)
    (h63 : vs.length + m ≤ maxLen) (hbytes : (vs.length + m) * bytes ≤ 140737488355328) (hlo : lo ≤ w.heap.size)
    (h : ∀ v' w', Own w' lo w'.heap.size e v' (vs ++ news) → w.grownBy w' v.ownBlock → (v'.ownBlock = v.ownBlock ∨ v'.ownBlock = some w.heap.size) → wpList P ops Q rest (a.put o.dst v') w') : wpList P ops Q (o :: rest) a w :=
  wpList_plain hgd fun _ hK => by
    obtain ⟨v', w', hrun, h2, h3, h4⟩ := run_append_o (P := P) w lo hi t o.type e i z bytes ht hi0 hz hsize hby hzs hown hr hm h1 h63 hbytes hlo
    unfold Oper.wp execOp
    simp only [ho, resolve, invoke, builtin, Sem.run_bind, Sem.run_pure, Result.andThen_ok, List.map_toArray, List.map_cons, List.map_nil, hs, hx]
    rw [hrun]
    exact hK _ _ (h v' w' h2 h3 h4)

theorem step_append_o {P : Program} (w : World) {ops : Array Oper} {o : Oper} {a : Act} {K : Act → World → Prop} {Q : Exit → Act → World → Prop} {E : Prop} (hgd : o.guard = none) (s x : Operand) (t : TypeId)
    (ho : o.op = .call { callee := .builtin .append, args := #[s, x], argTypes := #[t, t] })
    (lo hi : Nat) (e : TypeId) (i : TypeInfo) (z : Value) (bytes : Nat) (ht : P.underlying t = some (.slice e)) (hi0 : P.info? e = some i) (hz : i.zero = some z)
    (hsize : i.size = 1) (hby : i.bytes = bytes) (hzs : z.cells.size = 1) (v : Value) (vs : List Value) (hs : a.eval s = v) (hown : Own w lo hi e v vs)
    (B : Nat) (A : Option Addr) (m c : Nat) (news : List Value) (hx : a.eval x = .slice A m c) (hr : Rd w B A news) (hm : m = news.length) (h1 : ∀ u ∈ news, u.oneCell' = true)
    (h63 : vs.length + m ≤ maxLen) (hbytes : (vs.length + m) * bytes ≤ 140737488355328) (hlo : lo ≤ w.heap.size)
    (h : ∀ v' w', Own w' lo w'.heap.size e v' (vs ++ news) → w.grownBy w' v.ownBlock → (v'.ownBlock = v.ownBlock ∨ v'.ownBlock = some w.heap.size) → K (a.put o.dst v') w') :
    if Region.wanted o (yielded ops a.tmps) = true then Oper.wp P o a w K Q else E := by
  have hw : Region.wanted o (yielded ops a.tmps) = true := by simp [Region.wanted, hgd]
  rw [if_pos hw]
  obtain ⟨v', w', hrun, h2, h3, h4⟩ := run_append_o (P := P) w lo hi t o.type e i z bytes ht hi0 hz hsize hby hzs hown hr hm h1 h63 hbytes hlo
  unfold Oper.wp execOp
  simp only [ho, resolve, invoke, builtin, Sem.run_bind, Sem.run_pure, Result.andThen_ok, List.map_toArray, List.map_cons, List.map_nil, hs, hx]
  rw [hrun]
  exact h v' w' h2 h3 h4

/-- one new cell is readable -/
theorem Rd.one (w : World) (u : Value) (t : TypeId) : Rd (w.alloc (.cells #[u] t)) (w.heap.size + 1) (some ⟨w.heap.size, 0, none⟩) [u] := fun _ => by
  refine ⟨w.heap.size, 0, rfl, by omega, fun k v hk => ?_⟩
  match k, hk with
  | 0, hk => simp at hk; subst hk; simp

/-- an empty row that has just been laid -/
theorem Own.empty (w : World) (e : TypeId) : Own (w.alloc (.cells #[] e)) w.heap.size (w.heap.size + 1) e (.slice (some ⟨w.heap.size, 0, none⟩) 0 0) [] :=
  ⟨⟨rfl, .inr ⟨w.heap.size, 0, #[], rfl, Nat.le_refl _, heap_alloc_new w _, Nat.le_refl _, Nat.zero_le _, rfl, rfl⟩⟩, fun g hg => by simp [Value.ownBlock] at hg; omega, by simp⟩
/-- one element appended, as the walk does it: laid into a block of its own first -/
theorem below_push {B : Nat} {w0 w w1 : World} {o : Obj} {row : Option Nat} (hb : Below B w0 w) (hB : B ≤ w0.heap.size) (hg : (w.alloc o).grownBy w1 row) (hr : ∀ g, row = some g → B ≤ g) : Below B w0 w1 := by
  have h1 := Nat.le_trans hB hb.size
  exact (hb.alloc h1 o).grown hg (by simp; omega) hr
theorem Own.base {w : World} {lo hi : Nat} {e : TypeId} {v : Value} {vs : List Value} (h : Own w lo hi e v vs) : ∀ g, v.ownBlock = some g → lo ≤ g := fun g hg => (h.row.lt g hg).1

theorem Own.above {w w' : World} {lo hi lox hix : Nat} {e ex : TypeId} {v vx : Value} {vs vxs : List Value} (h : Own w lo hi e v vs) (hx : Own w lox hix ex vx vxs) (hg : w.grownBy w' vx.ownBlock) (hd : hix ≤ lo) : Own w' lo hi e v vs :=
  h.keep hg.size fun g hgv => hg.block g (Nat.lt_of_lt_of_le (h.lt g hgv) h.le) (fun e => by
    have h1 := hx.lt g e.symm
    have h2 := h.base g hgv
    omega)
theorem Own.belowMark {w w' : World} {lo hi : Nat} {e : TypeId} {v : Value} {vs : List Value} (h : Own w lo hi e v vs) (hlo : lo ≤ w.heap.size) (hg : w.grownBy w' v.ownBlock) : Below lo w w' :=
  (Below.refl lo w).grown hg hlo h.base

/-- a slice of numbers that came in -/
def IsRow (k : IntKind) (w : World) (a : Option Addr) (len cap : Nat) (zs : List Int) : Prop :=
  (a = none ∧ len = 0 ∧ cap = 0 ∧ zs = []) ∨
  ∃ x, a = some x ∧ len ≤ cap ∧ cap ≤ maxLen ∧ zs.length = cap ∧ (∀ i, i < zs.length → w.cell? (x.add i) = some (.int k (zs.getD i 0))) ∧ ∀ n ∈ zs, (Lit.int k n).wf = true
theorem IsRow.rd {k : IntKind} {w : World} {a : Option Addr} {len cap : Nat} {zs : List Int} (h : IsRow k w a len cap zs) :
    ∃ L : List Int, L.length = len ∧ Rd w w.heap.size a (L.map (Value.int k)) ∧ (∀ n ∈ L, (Lit.int k n).wf = true) ∧ len ≤ maxLen := by
  rcases h with ⟨rfl, rfl, rfl, rfl⟩ | ⟨x, rfl, hl, hm, hz, hc, hw⟩
  · exact ⟨[], rfl, fun hne => absurd rfl hne, by simp, Nat.zero_le _⟩
  · refine ⟨zs.take len, by simp; omega, fun hne => ?_, fun n hn => hw n (List.mem_of_mem_take hn), by omega⟩
    have h0 : 0 < zs.length := by
      rcases Nat.eq_zero_or_pos zs.length with h0 | h0
      · have := List.eq_nil_of_length_eq_zero h0; subst this; simp at hne
      · exact h0
    obtain ⟨b, o, spot⟩ := x
    have hc0 := hc 0 h0
    have hspot : spot = none := by simpa [Addr.add] using World.cell?_spot hc0
    subst hspot
    have hlt := World.block_lt_of_cell? _ _ hc0
    refine ⟨b, o, rfl, by simpa [Addr.add] using hlt, fun j v hv => ?_⟩
    have hj : j < len ∧ j < zs.length := by
      have := (List.getElem?_eq_some_iff.1 hv).1
      simp at this
      omega
    have h1 := hc j hj.2
    rw [Addr.add_lit] at h1
    rw [h1]
    simp [hj.1, hj.2] at hv
    simp [List.getD, hj.2, hv]

theorem IsRow.lc {k : IntKind} {w : World} {a : Option Addr} {len cap : Nat} {zs : List Int} (h : IsRow k w a len cap zs) : len ≤ cap := by
  rcases h with ⟨rfl, rfl, rfl, rfl⟩ | ⟨x, rfl, hl, _⟩
  · exact Nat.le_refl _
  · exact hl
/-- a part of what can be read -/
theorem Rd.take {w : World} {B : Nat} {a : Option Addr} {vs : List Value} (h : Rd w B a vs) (k : Nat) : Rd w B a (vs.take k) := fun hne => by
  obtain ⟨b, o, h1, h2, h3⟩ := h (by rintro rfl; simp at hne)
  refine ⟨b, o, h1, h2, fun j v hv => h3 j v ?_⟩
  rw [List.getElem?_take] at hv
  split at hv
  · exact hv
  · cases hv
theorem Rd.dropAt {w : World} {B b o : Nat} {vs : List Value} (h : Rd w B (some ⟨b, o, none⟩) vs) (k : Nat) : Rd w B (some ⟨b, o + k, none⟩) (vs.drop k) := fun hne => by
  obtain ⟨b', o', h1, h2, h3⟩ := h (by rintro rfl; simp at hne)
  injection h1 with h1; injection h1 with e1 e2; subst e1 e2
  refine ⟨b, o + k, rfl, h2, fun j v hv => ?_⟩
  rw [List.getElem?_drop] at hv
  rw [Nat.add_assoc]
  exact h3 (k + j) v hv

/-- what stands from place q on, as Go cuts it -/
theorem Rd.cutAt {w : World} {B b cap : Nat} {vs : List Value} (h : Rd w B (some ⟨b, 0, none⟩) vs) (q : Nat) (hc : vs.length ≤ cap) : Rd w B (if cap = q then some ⟨b, 0, none⟩ else some ⟨b, q, none⟩) (vs.drop q) := by
  by_cases hq : cap = q
  · rw [List.drop_eq_nil_of_le (by omega)]
    exact fun hne => absurd rfl hne
  · rw [if_neg hq]
    have := h.dropAt q
    rwa [Nat.zero_add] at this
theorem Rd.grown {w w' : World} {B : Nat} {a : Option Addr} {vs : List Value} {row : Option Nat} (h : Rd w B a vs) (hg : w.grownBy w' row) (hB : B ≤ w.heap.size) (hr : ∀ g, row = some g → ∀ b o, a = some ⟨b, o, none⟩ → b ≠ g) : Rd w' B a vs := fun hne => by
  obtain ⟨b, o, h1, h2, h3⟩ := h hne
  exact ⟨b, o, h1, h2, fun k v hv => (World.cell?_of_block (hg.block b (by omega) (fun e => hr b e.symm b o h1 rfl))).trans (h3 k v hv)⟩

theorem step_append_b {P : Program} (w : World) {ops : Array Oper} {o : Oper} {a : Act} {K : Act → World → Prop} {Q : Exit → Act → World → Prop} {E : Prop} (hgd : o.guard = none) (s x : Operand) (t : TypeId)
    (ho : o.op = .call { callee := .builtin .append, args := #[s, x], argTypes := #[t, t] })
    (lo hi : Nat) (e : TypeId) (i : TypeInfo) (z : Value) (bytes : Nat) (ht : P.underlying t = some (.slice e)) (hi0 : P.info? e = some i) (hz : i.zero = some z)
    (hsize : i.size = 1) (hby : i.bytes = bytes) (hzs : z.cells.size = 1) (v : Value) (vs : List Value) (hs : a.eval s = v) (w0 : World) (hb : Below lo w0 w) (hlo0 : lo ≤ w0.heap.size) (hown : Own w lo hi e v vs)
    (B : Nat) (A : Option Addr) (m c : Nat) (news : List Value) (hx : a.eval x = .slice A m c) (hr : Rd w B A news) (hm : m = news.length) (h1 : ∀ u ∈ news, u.oneCell' = true)
    (h63 : vs.length + m ≤ 4194304) (hby2 : bytes ≤ 64)
    (h : ∀ v' w', Own w' lo w'.heap.size e v' (vs ++ news) → Below lo w0 w' → w.grownBy w' v.ownBlock → K (a.put o.dst v') w') :
    if Region.wanted o (yielded ops a.tmps) = true then Oper.wp P o a w K Q else E :=
  step_append_o w hgd s x t ho lo hi e i z bytes ht hi0 hz hsize hby hzs v vs hs hown B A m c news hx hr hm h1 (by unfold maxLen; omega)
    (Nat.le_trans (Nat.mul_le_mul h63 hby2) (by omega)) (Nat.le_trans hlo0 hb.size)
    fun v' w' h2 h3 _ => h v' w' h2 (hb.grown h3 (Nat.le_trans hlo0 hb.size) hown.base) h3
theorem own_empty1 {lo : Nat} (w : World) (e : TypeId) (hlo : lo ≤ w.heap.size) : Own (w.alloc (.cells #[] e)) lo (w.heap.size + 1) e (.slice (some ⟨w.heap.size, 0, none⟩) 0 0) [] := (Own.empty w e).lower hlo
theorem own_empty2 {lo : Nat} (w : World) (e : TypeId) (o : Obj) (hlo : lo ≤ w.heap.size) : Own ((w.alloc o).alloc (.cells #[] e)) lo (w.heap.size + 2) e (.slice (some ⟨w.heap.size + 1, 0, none⟩) 0 0) [] := by
  have h := (Own.empty (w.alloc o) e).lower (lo' := lo) (by simp; omega)
  simpa using h
theorem len_take {M : List Int} {q : Nat} (h : q ≤ M.length) : q = (ints (M.take q)).length := by simp; omega
theorem len_drop {M : List Int} {q : Nat} : M.length - q = (ints (M.drop q)).length := by simp
theorem ints_one (D : List Int) : ∀ v ∈ ints D, v.oneCell' = true := by
  intro v hv
  simp at hv
  obtain ⟨x, -, rfl⟩ := hv
  rfl

theorem Rd.alloc {w : World} {B : Nat} {a : Option Addr} {vs : List Value} (h : Rd w B a vs) (hB : B ≤ w.heap.size) (o : Obj) : Rd (w.alloc o) B a vs := h.below ((Below.refl B w).alloc hB o)
theorem Rd.drew {w : World} {B : Nat} {a : Option Addr} {vs : List Value} (h : Rd w B a vs) : Rd w.drew B a vs := h
theorem rd_one2 (w : World) (o : Obj) (u : Value) (t : TypeId) : Rd ((w.alloc o).alloc (.cells #[u] t)) (w.heap.size + 2) (some ⟨w.heap.size + 1, 0, none⟩) [u] := by
  have h := Rd.one (w.alloc o) u t
  simpa using h
theorem rd_one3 (w : World) (o : Obj) (u : Value) (t : TypeId) : Rd ((w.alloc (.cells #[u] t)).alloc o) (w.heap.size + 1) (some ⟨w.heap.size, 0, none⟩) [u] := (Rd.one w u t).alloc (by simp) o
theorem Rd.apart {w w' : World} {B x y n c : Nat} {vs : List Value} (h : Rd w B (some ⟨x, 0, none⟩) vs) (hg : w.grownBy w' (Value.slice (some ⟨y, 0, none⟩) n c).ownBlock) (hB : B ≤ w.heap.size) (hne : x ≠ y) : Rd w' B (some ⟨x, 0, none⟩) vs :=
  h.grown hg hB fun g hgg b o e => by simp [Value.ownBlock] at hgg; injection e with e; injection e with e; omega

theorem Own.formN {w : World} {lo hi : Nat} {e : TypeId} {v : Value} {vs : List Value} (h : Own w lo hi e v vs) (h0 : 0 < vs.length) : ∃ g c, v = .slice (some ⟨g, 0, none⟩) vs.length c ∧ vs.length ≤ c := by
  rcases h.row.2 with ⟨h1, h2⟩ | ⟨g, cap, cur, h1, _, _, h3, _⟩
  · omega
  · exact ⟨g, cap, h1, h3⟩

theorem Own.read {w : World} {lo hi : Nat} {e : TypeId} {a : Option Addr} {n c : Nat} {vs : List Value} (h : Own w lo hi e (.slice a n c) vs) {k : Nat} (hk : k < vs.length) : ∃ g, a = some ⟨g, 0, none⟩ ∧ w.cell? ⟨g, k, none⟩ = some vs[k] := by
  obtain ⟨g, c', h1, _, _, h4, _⟩ := h.at_ hk
  injection h1 with h1 _ _
  exact ⟨g, h1, h4⟩
end Go.Proofs.YtmlomapifldlpaaDoor
