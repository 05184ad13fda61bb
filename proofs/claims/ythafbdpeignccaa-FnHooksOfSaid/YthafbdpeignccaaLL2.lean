/-
  Lists of lists that come in: their sizes, their copies.
-/
import Derived.Test.YthafbdpeignccaaLL1
import Derived.Test.YthafbdpeignccaaL1
import Derived.Test.YthafbdpeignccaaArr
import Derived.Deep.Matrix
namespace Go.Proofs.Ythafbdpeignccaa
open Go.RowKit NP
set_option maxRecDepth 8000
set_option linter.unusedVariables false
set_option linter.unusedSimpArgs false
/-- a list put into its place: its block was made behind all others -/
theorem OwnLL.put {w : World} {lo hi lou : Nat} {eo e : TypeId} {g n c : Nat} {u : Value} {vs : List Value} {LL : List (List Int)} {L : List Int} (h : OwnLL w lo hi eo e (.slice (some ⟨g, 0, none⟩) n c) vs LL)
    (hu : Own w lou w.heap.size e u (ints L)) (hlou : hi ≤ lou) (hlo : lo ≤ lou) {k : Nat} (hk : k < vs.length) : OwnLL (w.setCell ⟨g, k, none⟩ u) lo w.heap.size eo e (.slice (some ⟨g, 0, none⟩) n c) (vs.set k u) (LL.set k L) := by
  have hgh : g < hi := h.outer.lt g rfl
  have hlen := h.len
  have hle := h.le
  refine ⟨h.outer.more.set k u, by rw [List.length_set, List.length_set]; exact hlen, fun j x M hx hM => ?_, fun j x q hx hq hv => ?_, fun i j x y q hx hy hqx hqy => ?_⟩
  · rw [List.getElem?_set] at hx hM
    by_cases hj : k = j
    · subst hj
      rw [if_pos rfl, if_pos hk] at hx
      rw [if_pos rfl, if_pos (by omega)] at hM
      cases hx; cases hM
      exact (hu.off (p := ⟨g, k, none⟩) (fun q hq e => by have := hu.base q hq; have e' : q = g := e; omega) u).lower hlo
    · rw [if_neg hj] at hx hM
      have hi' := h.inner j x M hx hM
      exact (hi'.more).off (p := ⟨g, k, none⟩) (fun q hq e => h.apartO j x q hx hq (by rw [e]; rfl)) u
  · rw [List.getElem?_set] at hx
    have hgq : g = q := by simp [Value.ownBlock] at hv; exact hv
    by_cases hj : k = j
    · subst hj
      rw [if_pos rfl, if_pos hk] at hx
      cases hx
      have := hu.base q hq
      omega
    · rw [if_neg hj] at hx
      exact h.apartO j x q hx hq hv
  · rw [List.getElem?_set] at hx hy
    by_cases hi : k = i
    · subst hi
      rw [if_pos rfl, if_pos hk] at hx
      cases hx
      by_cases hj : k = j
      · exact hj
      · rw [if_neg hj] at hy
        have h1 := h.lt hy hqy
        have h2 := hu.base q hqx
        omega
    · rw [if_neg hi] at hx
      by_cases hj : k = j
      · subst hj
        rw [if_pos rfl, if_pos hk] at hy
        cases hy
        have h1 := h.lt hx hqx
        have h2 := hu.base q hqy
        omega
      · rw [if_neg hj] at hy
        exact h.apart i j x y q hx hy hqx hqy
theorem own_nil2 (w : World) (lo hi : Nat) (e : TypeId) (h : hi ≤ w.heap.size) : Own w lo hi e (.slice none 0 0) [] :=
  ⟨World.ownsRow_nil w lo e 1, fun g hg => by simp [Value.ownBlock] at hg, h⟩
/-- a list of empty lists, laid anew -/
theorem OwnLL.zeros (w : World) (n : Nat) (eo e : TypeId) (hn : n ≤ maxLen) :
    OwnLL (w.alloc (.cells (List.replicate n (Value.slice none 0 0)).toArray eo)) w.heap.size (w.heap.size + 1) eo e (.slice (some ⟨w.heap.size, 0, none⟩) n n) (List.replicate n (Value.slice none 0 0)) (List.replicate n []) := by
  have hb := Blk.new w eo (List.replicate n (Value.slice none 0 0)).toArray
  have ho := hb.own (lo := w.heap.size) (vs := List.replicate n (Value.slice none 0 0)) (Nat.le_refl _) (by simpa using hn)
  rw [List.length_replicate, World.size_alloc] at ho
  refine ⟨ho, by simp, fun k u L hu hL => ?_, fun k u g hu hg => ?_, fun i j u u' g hu hu' hg => ?_⟩
  · have h1 := List.mem_of_getElem? hu
    have h2 := List.mem_of_getElem? hL
    rw [List.mem_replicate] at h1 h2
    rw [h1.2, h2.2]
    exact own_nil2 _ _ _ _ (by simp)
  · have h1 := List.mem_of_getElem? hu
    rw [List.mem_replicate] at h1
    rw [h1.2] at hg
    simp [Value.ownBlock] at hg
  · have h1 := List.mem_of_getElem? hu
    rw [List.mem_replicate] at h1
    rw [h1.2] at hg
    simp [Value.ownBlock] at hg
theorem run_make_lists {P : Program} (t e : TypeId) (i : TypeInfo) (h1 : P.underlying t = some (.slice e)) (h2 : P.info? e = some i) (h3 : i.zero = some (.slice none 0 0)) (h4 : i.size = 1) (h5 : i.bytes = 24)
    (n : Nat) (hn : n ≤ 4194304) (w : World) :
    (Instr.makeSlice t (.int .i64 n) (.int .i64 n)).run P w = .ok (.slice (some ⟨w.heap.size, 0, none⟩) n n) (w.alloc (.cells (List.replicate n (Value.slice none 0 0)).toArray e)) := by
  have hrun := run_make (P := P) w t e i (.slice none 0 0) h1 h2 h3 .i64 .i64 n n (by omega) (by omega) (by rw [h5]; omega) (by omega)
  rw [h4] at hrun
  simp only [Int.toNat_natCast, Nat.mul_one] at hrun
  rw [hrun]
  congr 3
  apply Array.toList_inj.1
  simp [Value.cells, toList_madeCells_one]
theorem fill_setV {us : List Value} {k n : Nat} (hk : us.length = k) (hn : k < n) (u : Value) : (us ++ List.replicate (n - k) (Value.slice none 0 0)).set k u = (us ++ [u]) ++ List.replicate (n - (k + 1)) (Value.slice none 0 0) := by
  rw [List.set_append_right _ _ (by omega), hk, Nat.sub_self, show n - k = (n - (k + 1)) + 1 by omega, List.replicate_succ, List.set_cons_zero, List.append_assoc]
  rfl
theorem fill_setL {LL : List (List Int)} {k : Nat} (hk : k < LL.length) : (LL.take k ++ List.replicate (LL.length - k) []).set k LL[k] = LL.take (k + 1) ++ List.replicate (LL.length - (k + 1)) [] := by
  rw [List.set_append_right _ _ (by simp; omega), List.length_take, Nat.min_eq_left (by omega), Nat.sub_self, show LL.length - k = (LL.length - (k + 1)) + 1 by omega, List.replicate_succ, List.set_cons_zero, List.take_succ_eq_append_getElem hk, List.append_assoc]
  rfl
/-- rows that came in, read as lists -/
theorem rows_of {w : World} {a : Addr} {len cap : Nat} {A : Nat → Option Addr} {L C : Nat → Nat} {Z : Nat → List Int} (hl : len ≤ cap)
    (h : ∀ r, r < cap → w.cell? (a.add r) = some (.slice (A r) (L r) (C r)) ∧ L r ≤ C r ∧ C r ≤ maxLen ∧ (Z r).length = C r ∧ (∀ n ∈ Z r, (Lit.int .i64 n).wf = true) ∧ (A r = none → C r = 0) ∧
      ∀ a', A r = some a' → 0 ≤ a'.block ∧ ∀ c, c < C r → w.cell? (a'.add c) = some (.int .i64 ((Z r).getD c 0))) :
    ∃ LL : List (List Int), LL.length = len ∧ RdLL w w.heap.size (some a) LL ∧ ∀ M ∈ LL, M.length ≤ maxLen := by
  have each : ∀ r, r < len → ∃ M : List Int, M.length = L r ∧ Rd w w.heap.size (A r) (ints M) ∧ M.length ≤ maxLen ∧ M.length ≤ C r := by
    intro r hr
    obtain ⟨h1, h2, h3, h4, h5, h6, h7⟩ := h r (by omega)
    have hrow : IsRow .i64 w (A r) (L r) (C r) (Z r) := by
      cases ha : A r with
      | none =>
        have := h6 ha
        exact .inl ⟨rfl, by omega, this, List.eq_nil_of_length_eq_zero (by omega)⟩
      | some x => exact .inr ⟨x, rfl, h2, h3, h4, fun i hi => (h7 x ha).2 i (by omega), h5⟩
    obtain ⟨M, e1, e2, _, e4⟩ := hrow.rd
    exact ⟨M, e1, e2, by omega, by omega⟩
  obtain ⟨y, hy⟩ := Go.Deep.choose_lt each
  refine ⟨(List.range len).map y, by simp, ⟨(List.range len).map fun r => .slice (A r) (L r) (C r), ?_, by simp, ?_⟩, ?_⟩
  · intro hne
    have h0 : 0 < len := by
      rcases Nat.eq_zero_or_pos len with h0 | h0
      · subst h0; simp at hne
      · exact h0
    obtain ⟨b, o, spot⟩ := a
    have hc0 := (h 0 (by omega)).1
    have hspot : spot = none := by simpa [Addr.add] using World.cell?_spot hc0
    subst hspot
    have hlt := World.block_lt_of_cell? _ _ hc0
    refine ⟨b, o, rfl, by simpa [Addr.add] using hlt, fun k v hv => ?_⟩
    have hk := (List.getElem?_eq_some_iff.1 hv).1
    simp at hk
    have h1 := (h k (by omega)).1
    rw [Addr.add_lit] at h1
    rw [h1]
    simpa [hk] using hv
  · intro k v M hv hM
    have hk := (List.getElem?_eq_some_iff.1 hv).1
    simp at hk
    simp [hk] at hv hM
    subst hv hM
    obtain ⟨e1, e2, e3, e4⟩ := hy k hk
    exact ⟨A k, C k, by rw [e1], e2, e4⟩
  · intro M hM
    obtain ⟨r, hr, rfl⟩ := List.mem_map.1 hM
    exact (hy r (List.mem_range.1 hr)).2.2.1
/-- what is left of a size when lists are taken from it -/
def szs (left : Int) : List (List Int) → Int
  | [] => left
  | L :: R => if left - (L.length : Int) < 0 then -1 else szs (left - (L.length : Int)) R
theorem szs_neg (left : Int) (LL : List (List Int)) (h : 0 ≤ left) (hs : 0 ≤ szs left LL) : ∀ L ∈ LL, (L.length : Int) ≤ left := by
  induction LL generalizing left with
  | nil => intro L hL; cases hL
  | cons x R ih =>
    unfold szs at hs
    split at hs
    · omega
    · rename_i h1
      intro L hL
      rcases List.mem_cons.1 hL with rfl | hL
      · omega
      · have := ih (left - (x.length : Int)) (by omega) hs L hL
        omega
theorem szs_cnt (left : Int) (LL : List (List Int)) (h : 0 ≤ left) (hs : 0 ≤ szs left LL) : (cntLL LL : Int) ≤ left := by
  induction LL generalizing left with
  | nil => simp [cntLL]; exact h
  | cons x R ih =>
    unfold szs at hs
    split at hs
    · omega
    · rename_i h1
      have := ih (left - (x.length : Int)) (by omega) hs
      simp [cntLL] at this ⊢
      omega
def szF (left : Int) (LL : List (List Int)) : Int := if left - (LL.length : Int) < 0 then -1 else szs (left - (LL.length : Int)) LL
theorem szF_ok {LL : List (List Int)} (h : 0 ≤ szF 1048576 LL) : LL.length ≤ 1048576 ∧ (∀ L ∈ LL, L.length ≤ 1048576) ∧ cntLL LL ≤ 1048576 := by
  unfold szF at h
  split at h
  · omega
  · rename_i h1
    have h2 := szs_neg _ _ (by omega) h
    have h3 := szs_cnt _ _ (by omega) h
    refine ⟨by omega, fun L hL => ?_, by omega⟩
    have := h2 L hL
    omega
theorem szs_drop (left : Int) {LL : List (List Int)} {k : Nat} (hk : k < LL.length) : szs left (LL.drop k) = if left - (LL[k].length : Int) < 0 then -1 else szs (left - (LL[k].length : Int)) (LL.drop (k + 1)) := by
  rw [List.drop_eq_getElem_cons hk]
  rfl
theorem T_ints3 : (Try.prog.info? 22).map (fun i => (i.zero, i.size, i.bytes)) = some (some (.slice none 0 0), 1, 24) := by kernel_rfl
end Go.Proofs.Ythafbdpeignccaa
