/-
  Slices whose elements are rows of so many whole numbers: a row of the call's own.
-/
import Derived.Test.YthafbdpeignccaaArr
import Derived.Deep.MidRow
namespace Go.Proofs.Ythafbdpeignccaa
open Go.RowKit
set_option linter.unusedVariables false
section flat
variable {n : Nat} {R : List (List Int)}
theorem flatN_len (h : ∀ L ∈ R, L.length = n) : R.flatten.length = R.length * n := by
  induction R with
  | nil => simp
  | cons x S ih => rw [List.flatten_cons, List.length_append, ih (fun L hL => h L (List.mem_cons_of_mem _ hL)), h x (List.mem_cons_self ..), List.length_cons, Nat.add_mul]; omega
theorem flatN_get (h : ∀ L ∈ R, L.length = n) : ∀ {i k : Nat} (hi : i < R.length), k < n → R.flatten[i * n + k]? = R[i][k]? := by
  induction R with
  | nil => intro i k hi; simp at hi
  | cons x S ih =>
    intro i k hi hk
    have hx := h x (List.mem_cons_self ..)
    cases i with
    | zero => rw [Nat.zero_mul, Nat.zero_add, List.flatten_cons, List.getElem?_append_left (by omega)]; rfl
    | succ i =>
      rw [List.flatten_cons, List.getElem?_append_right (by rw [Nat.add_mul]; omega), show (i + 1) * n + k - x.length = i * n + k from by rw [Nat.add_mul]; omega, ih (fun L hL => h L (List.mem_cons_of_mem _ hL)) (by simpa using hi) hk]
      rfl
theorem flatN_set (h : ∀ L ∈ R, L.length = n) : ∀ {i k : Nat} (hi : i < R.length), k < n → ∀ v : Int, R.flatten.set (i * n + k) v = (R.set i (R[i].set k v)).flatten := by
  induction R with
  | nil => intro i k hi; simp at hi
  | cons x S ih =>
    intro i k hi hk v
    have hx := h x (List.mem_cons_self ..)
    cases i with
    | zero => simp only [Nat.zero_mul, Nat.zero_add, List.flatten_cons, List.getElem_cons_zero, List.set_cons_zero]; rw [List.set_append_left _ _ (by omega)]
    | succ i =>
      simp only [List.flatten_cons, List.getElem_cons_succ, List.set_cons_succ]
      rw [List.set_append_right _ _ (by rw [Nat.add_mul]; omega), show (i + 1) * n + k - x.length = i * n + k from by rw [Nat.add_mul]; omega, ih (fun L hL => h L (List.mem_cons_of_mem _ hL)) (by simpa using hi) hk]
end flat
structure OwnW (w : World) (lo hi : Nat) (e : TypeId) (n : Nat) (v : Value) (R : List (List Int)) : Prop where
  row : w.ownsRow lo e n v R.length (ints R.flatten)
  each : ∀ L ∈ R, L.length = n
  lt : ∀ g, v.ownBlock = some g → g < hi
  le : hi ≤ w.heap.size
section
variable {w w' : World} {lo hi : Nat} {e : TypeId} {n : Nat} {v : Value} {R : List (List Int)}
theorem ownsRowN_keep {m size : Nat} {vs : List Value} (h : w.ownsRow lo e size v m vs) (hk : ∀ g, v.ownBlock = some g → w'.heap[g]? = w.heap[g]?) : w'.ownsRow lo e size v m vs := by
  refine ⟨h.1, ?_⟩
  rcases h.2 with hn | ⟨g, cap, cur, rfl, hb, hg, rest⟩
  · exact .inl hn
  · exact .inr ⟨g, cap, cur, rfl, hb, (hk g rfl).trans hg, rest⟩
theorem OwnW.keep (h : OwnW w lo hi e n v R) (hs : w.heap.size ≤ w'.heap.size) (hk : ∀ g, v.ownBlock = some g → w'.heap[g]? = w.heap[g]?) : OwnW w' lo hi e n v R :=
  ⟨ownsRowN_keep h.row hk, h.each, h.lt, Nat.le_trans h.le hs⟩
theorem OwnW.below (h : OwnW w lo hi e n v R) (hb : Below hi w w') : OwnW w' lo hi e n v R := h.keep hb.size fun g hg => hb.block g (h.lt g hg)
theorem OwnW.alloc (h : OwnW w lo hi e n v R) (o : Obj) : OwnW (w.alloc o) lo hi e n v R :=
  h.keep (by simp) fun g hg => Below.heap_alloc w o g (Nat.lt_of_lt_of_le (h.lt g hg) h.le)
theorem OwnW.more (h : OwnW w lo hi e n v R) : OwnW w lo w.heap.size e n v R := ⟨h.row, h.each, fun g hg => Nat.lt_of_lt_of_le (h.lt g hg) h.le, Nat.le_refl _⟩
theorem OwnW.lower {lo' : Nat} (h : OwnW w lo hi e n v R) (hl : lo' ≤ lo) : OwnW w lo' hi e n v R :=
  ⟨⟨h.row.1, h.row.2.imp id fun ⟨g, cap, cur, h1, h2, h3⟩ => ⟨g, cap, cur, h1, Nat.le_trans hl h2, h3⟩⟩, h.each, h.lt, h.le⟩
theorem OwnW.dr (h : OwnW w lo hi e n v R) (hd : Dr w w') : OwnW w' lo hi e n v R := h.below (hd.below hi)
theorem OwnW.form (h : OwnW w lo hi e n v R) : ∃ a c, v = .slice a R.length c := by
  rcases h.row.2 with ⟨h1, h2⟩ | ⟨g, cap, cur, h1, _⟩
  · exact ⟨none, 0, by rw [h1, h2]⟩
  · exact ⟨_, _, h1⟩
theorem OwnW.nil (w : World) (lo : Nat) (e : TypeId) (n : Nat) : OwnW w lo w.heap.size e n (.slice none 0 0) [] :=
  ⟨World.ownsRow_nil w lo e n, fun L hL => by simp at hL, fun g hg => by simp [Value.ownBlock] at hg, Nat.le_refl _⟩
theorem OwnW.at_ (h : OwnW w lo hi e n v R) {k : Nat} (hk : k < R.length) :
    ∃ g c, v = .slice (some ⟨g, 0, none⟩) R.length c ∧ lo ≤ g ∧ g < hi ∧ (∀ j x, j < n → R[k][j]? = some x → w.cell? ⟨g, k * n + j, none⟩ = some (.int .i64 x)) ∧ ∀ i, w.frozen? ⟨g, i, none⟩ = false := by
  rcases h.row.2 with ⟨h1, h2⟩ | ⟨g, cap, cur, rfl, hb, hg, _, _, _, ht⟩
  · omega
  · refine ⟨g, cap, rfl, hb, h.lt g rfl, fun j x hj hx => ?_, fun i => frozen_of_row w g i cur e hg⟩
    rw [cell_of_row w g (k * n + j) cur e (0, 0) hg]
    have h3 : R.flatten[k * n + j]? = some x := by rw [flatN_get h.each hk hj]; exact hx
    have h4 : (ints R.flatten)[k * n + j]? = some (.int .i64 x) := by unfold ints; rw [List.getElem?_map, h3]; rfl
    rw [← ht, List.getElem?_take] at h4
    split at h4
    · simpa using h4
    · cases h4
theorem OwnW.range (h : OwnW w lo hi e n v R) {k : Nat} (hk : k < R.length) :
    ∃ g c, v = .slice (some ⟨g, 0, none⟩) R.length c ∧ lo ≤ g ∧ g < hi ∧ (∀ o (M : List Int), o + M.length ≤ n → (∀ j, j < M.length → M[j]? = R[k][o + j]?) → w.rangeAt g (k * n + o) (ints M)) ∧ (∀ i, w.frozen? ⟨g, i, none⟩ = false) := by
  obtain ⟨g, c, h1, h2, h3, h4, h5⟩ := h.at_ hk
  refine ⟨g, c, h1, h2, h3, fun o M hM hj i u hu => ?_, h5⟩
  have hi' : i < M.length := by have := (List.getElem?_eq_some_iff.1 hu).1; simpa using this
  rw [Nat.add_assoc]
  have e1 := hj i hi'
  rw [List.getElem?_eq_getElem hi'] at e1
  rw [h4 (o + i) M[i] (by omega) e1.symm]
  simp only [ints, List.getElem?_map, List.getElem?_eq_getElem hi', Option.map_some, Option.some.injEq] at hu
  rw [← hu]
theorem OwnW.set {g c : Nat} {m : Nat} (h : OwnW w lo hi e n (.slice (some ⟨g, 0, none⟩) m c) R) {k j : Nat} (hk : k < R.length) (hj : j < n) (x : Int) : OwnW (w.setCell ⟨g, k * n + j, none⟩ (.int .i64 x)) lo hi e n (.slice (some ⟨g, 0, none⟩) m c) (R.set k (R[k].set j x)) := by
  obtain ⟨a', c', hv⟩ := h.form
  injection hv with _ hm _
  subst hm
  have h1 := h.row.stored (k * n + j) (.int .i64 x)
  refine ⟨?_, fun L hL => ?_, h.lt, ?_⟩
  · rw [List.length_set, ← flatN_set h.each hk hj]
    have e : ints (R.flatten.set (k * n + j) x) = (ints R.flatten).set (k * n + j) (.int .i64 x) := by simp [ints, List.map_set]
    rw [e]; exact h1.1
  · rcases List.mem_or_eq_of_mem_set hL with h2 | h2
    · exact h.each L h2
    · rw [h2, List.length_set]; exact h.each _ (List.getElem_mem hk)
  · have := h.le; simpa [World.setCell] using this
theorem OwnW.grown {row : Option Nat} (h : OwnW w lo hi e n v R) (hg : w.grownBy w' row) (hr : v.ownBlock = none ∨ v.ownBlock ≠ row) : OwnW w' lo hi e n v R :=
  h.keep hg.size fun g hgv => hg.block g (Nat.lt_of_lt_of_le (h.lt g hgv) h.le) (by
    rcases hr with hr | hr
    · rw [hr] at hgv; cases hgv
    · rw [← hgv]; exact hr)
end
/-- one row more -/
theorem wpList_append_w {P : Program} {w : World} {ops : Array Oper} {rest : List Oper} {o : Oper} {a : Act} {Q : Exit → Act → World → Prop} (hgd : o.guard = none) (s x : Operand) (t : TypeId)
    (ho : o.op = .call { callee := .builtin .append, args := #[s, x], argTypes := #[t, t] })
    (lo hi : Nat) (e : TypeId) (i : TypeInfo) (z : Value) (n bytes : Nat) (ht : P.underlying t = some (.slice e)) (hi0 : P.info? e = some i) (hz : i.zero = some z)
    (hsize : i.size = n) (hby : i.bytes = bytes) (hzs : z.cells.size = n) (hn : 0 < n)
    (v : Value) (R : List (List Int)) (hs : a.eval s = v) (hown : OwnW w lo hi e n v R) (hlo : lo ≤ w.heap.size)
    (g c : Nat) (L : List Int) (hx : a.eval x = .slice (some ⟨g, 0, none⟩) 1 c) (hL : L.length = n) (hc : w.rangeAt g 0 (ints L))
    (hl : R.length ≤ 100000) (hb : bytes ≤ 100000)
    (h : ∀ v' w', OwnW w' lo w'.heap.size e n v' (R ++ [L]) → w.grownBy w' v.ownBlock → (v'.ownBlock = v.ownBlock ∨ v'.ownBlock = some w.heap.size) → wpList P ops Q rest (a.put o.dst v') w') : wpList P ops Q (o :: rest) a w :=
  wpList_plain hgd fun _ hK => by
    obtain ⟨v', w', hrun, h2, h3, _, h5⟩ := run_append_own_at (P := P) w lo t o.type e i z n bytes ht hi0 hz hsize hby hzs hn v _ (ints R.flatten) hown.row ⟨g, 0, none⟩ 1 c (ints L) (by simp [hL]) (fun j u hu => by rw [Addr.add_mid]; exact hc j u hu) (fun u hu => by simp [ints] at hu; obtain ⟨y, _, rfl⟩ := hu; rfl) (by unfold maxLen; omega) (by
      have : (R.length + 1) * bytes ≤ 100001 * 100000 := Nat.mul_le_mul (by omega) hb
      omega) hlo
    have hR : ints R.flatten ++ ints L = ints (R ++ [L]).flatten := by simp [ints]
    rw [hR] at h2
    unfold Oper.wp execOp
    simp only [ho, resolve, invoke, builtin, Sem.run_bind, Sem.run_pure, Result.andThen_ok, List.map_toArray, List.map_cons, List.map_nil, hs, hx]
    rw [hrun]
    refine hK _ _ (h v' w' ⟨by rw [List.length_append]; exact h2, fun M hM => ?_, fun g' hg' => (h2.lt g' hg').2, Nat.le_refl _⟩ h3 h5)
    rcases List.mem_append.1 hM with hM | hM
    · exact hown.each M hM
    · rw [List.mem_singleton.1 hM]; exact hL
/-- one row that has just been laid -/
theorem OwnW.one (w : World) (e : TypeId) (n : Nat) (L : List Int) (hL : L.length = n) : OwnW (w.alloc (.cells (arr L) e)) w.heap.size (w.heap.size + 1) e n (.slice (some ⟨w.heap.size, 0, none⟩) 1 1) [L] :=
  ⟨⟨by simp [hL], .inr ⟨w.heap.size, 1, _, rfl, Nat.le_refl _, heap_alloc_new w _, Nat.le_refl _, by unfold maxLen; omega, by simp [arr, ints, hL], by simp [arr, ints, ← hL]; exact List.take_of_length_le (by simp)⟩⟩, fun M hM => by rw [List.mem_singleton.1 hM]; exact hL, fun g hg => by simp [Value.ownBlock] at hg; omega, by simp⟩
theorem OwnW.base {w : World} {lo hi : Nat} {e : TypeId} {n : Nat} {v : Value} {R : List (List Int)} (h : OwnW w lo hi e n v R) : ∀ g, v.ownBlock = some g → lo ≤ g := fun g hg => (h.row.lt g hg).1
end Go.Proofs.Ythafbdpeignccaa
