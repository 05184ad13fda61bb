/-
  Words for lists of lists: readable (RdLL), the call's own (OwnLL). A function value that tells of each diagram whether something holds of its parts. Walks of the program: all parts with a sum, those of which something holds. Walks of the program: the parts with a sum of which something holds, where parts are listed. Walks: the laws' own helpers on lists of lists: compared (eqIntSS, equalLists). Lists of lists that come in: their sizes, their copies. Plain mathematics: the rows of boxes, by adding rows of smaller ones. A region that draws its order, of whose first operations each yields the same value in every world of a kind, guarded ones among them: they may be carried out in their text's order. A region that draws its order and ends in a store.
-/
import Derived.Test.YtcjnmconehfbgaaZBXP1
import Derived.Test.YtcjnmconehfbgaaZBXP2
import Derived.Test.YtcjnmconehfbgaaZBXP3
import Derived.Deep.RegionHeld3
import Derived.Deep.Matrix
import Derived.Orders
import Derived.RegionTactic
namespace Go.Proofs.Ytcjnmconehfbgaa
open Go.RowKit
set_option maxRecDepth 8000

/-- a value reads as a list of numbers -/
def Inn (w : World) (B : Nat) (v : Value) (L : List Int) : Prop := ∃ a c, v = .slice a L.length c ∧ Rd w B a (ints L) ∧ L.length ≤ c
def RdLL (w : World) (B : Nat) (a : Option Addr) (LL : List (List Int)) : Prop :=
  ∃ vs, Rd w B a vs ∧ vs.length = LL.length ∧ ∀ (k : Nat) v L, vs[k]? = some v → LL[k]? = some L → Inn w B v L

theorem Inn.below {w w' : World} {B : Nat} {v : Value} {L : List Int} (h : Inn w B v L) (hb : Below B w w') : Inn w' B v L := by
  obtain ⟨a, c, rfl, h1, h2⟩ := h
  exact ⟨a, c, rfl, h1.below hb, h2⟩
theorem Inn.more {w : World} {B B' : Nat} {v : Value} {L : List Int} (h : Inn w B v L) (hB : B ≤ B') : Inn w B' v L := by
  obtain ⟨a, c, rfl, h1, h2⟩ := h
  exact ⟨a, c, rfl, h1.more hB, h2⟩
theorem RdLL.below {w w' : World} {B : Nat} {a : Option Addr} {LL : List (List Int)} (h : RdLL w B a LL) (hb : Below B w w') : RdLL w' B a LL := by
  obtain ⟨vs, h1, h2, h3⟩ := h
  exact ⟨vs, h1.below hb, h2, fun k v L hv hL => (h3 k v L hv hL).below hb⟩
theorem RdLL.more {w : World} {B B' : Nat} {a : Option Addr} {LL : List (List Int)} (h : RdLL w B a LL) (hB : B ≤ B') : RdLL w B' a LL := by
  obtain ⟨vs, h1, h2, h3⟩ := h
  exact ⟨vs, h1.more hB, h2, fun k v L hv hL => (h3 k v L hv hL).more hB⟩
theorem RdLL.dr {w w' : World} {B : Nat} {a : Option Addr} {LL : List (List Int)} (h : RdLL w B a LL) (hb : Dr w w') : RdLL w' B a LL := h.below (hb.below B)
/-- the k-th list -/
theorem RdLL.at_ {w : World} {B : Nat} {a : Option Addr} {LL : List (List Int)} (h : RdLL w B a LL) {k : Nat} (hk : k < LL.length) :
    ∃ b o a' c', a = some ⟨b, o, none⟩ ∧ b < B ∧ w.cell? ⟨b, o + k, none⟩ = some (.slice a' LL[k].length c') ∧ Rd w B a' (ints LL[k]) ∧ LL[k].length ≤ c' := by
  obtain ⟨vs, h1, h2, h3⟩ := h
  have hkv : k < vs.length := by omega
  obtain ⟨b, o, rfl, hb, hc⟩ := h1 (by intro e; subst e; simp at hkv)
  obtain ⟨a', c', e, hr, hl⟩ := h3 k vs[k] LL[k] (List.getElem?_eq_getElem hkv) (List.getElem?_eq_getElem hk)
  exact ⟨b, o, a', c', rfl, hb, by rw [hc k vs[k] (List.getElem?_eq_getElem hkv), e], hr, hl⟩

/-- the outer block and each list's block are the call's own, and no two are one -/
structure OwnLL (w : World) (lo hi : Nat) (eo e : TypeId) (v : Value) (vs : List Value) (LL : List (List Int)) : Prop where
  outer : Own w lo hi eo v vs
  len : vs.length = LL.length
  inner : ∀ (k : Nat) u L, vs[k]? = some u → LL[k]? = some L → Own w lo hi e u (ints L)
  apartO : ∀ (k : Nat) u g, vs[k]? = some u → u.ownBlock = some g → v.ownBlock ≠ some g
  apart : ∀ (j k : Nat) u u' g, vs[j]? = some u → vs[k]? = some u' → u.ownBlock = some g → u'.ownBlock = some g → j = k

theorem OwnLL.below {w w' : World} {lo hi : Nat} {eo e : TypeId} {v : Value} {vs : List Value} {LL : List (List Int)} (h : OwnLL w lo hi eo e v vs LL) (hb : Below hi w w') : OwnLL w' lo hi eo e v vs LL :=
  ⟨h.outer.below hb, h.len, fun k u L hu hL => (h.inner k u L hu hL).below hb, h.apartO, h.apart⟩
theorem OwnLL.lower {w : World} {lo lo' hi : Nat} {eo e : TypeId} {v : Value} {vs : List Value} {LL : List (List Int)} (h : OwnLL w lo hi eo e v vs LL) (hl : lo' ≤ lo) : OwnLL w lo' hi eo e v vs LL :=
  ⟨h.outer.lower hl, h.len, fun k u L hu hL => (h.inner k u L hu hL).lower hl, h.apartO, h.apart⟩
theorem OwnLL.more {w : World} {lo hi : Nat} {eo e : TypeId} {v : Value} {vs : List Value} {LL : List (List Int)} (h : OwnLL w lo hi eo e v vs LL) : OwnLL w lo w.heap.size eo e v vs LL :=
  ⟨h.outer.more, h.len, fun k u L hu hL => (h.inner k u L hu hL).more, h.apartO, h.apart⟩
theorem OwnLL.le {w : World} {lo hi : Nat} {eo e : TypeId} {v : Value} {vs : List Value} {LL : List (List Int)} (h : OwnLL w lo hi eo e v vs LL) : hi ≤ w.heap.size := h.outer.le
theorem OwnLL.form {w : World} {lo hi : Nat} {eo e : TypeId} {v : Value} {vs : List Value} {LL : List (List Int)} (h : OwnLL w lo hi eo e v vs LL) : ∃ a c, v = .slice a LL.length c := by
  obtain ⟨a, c, hv⟩ := h.outer.form
  exact ⟨a, c, by rw [← h.len]; exact hv⟩
theorem OwnLL.empty (w : World) (eo e : TypeId) : OwnLL (w.alloc (.cells #[] eo)) w.heap.size (w.heap.size + 1) eo e (.slice (some ⟨w.heap.size, 0, none⟩) 0 0) [] [] :=
  ⟨Own.empty w eo, rfl, fun k u L hu => by simp at hu, fun k u g hu => by simp at hu, fun j k u u' g hu => by simp at hu⟩
theorem OwnLL.nil (w : World) (lo : Nat) (eo e : TypeId) : OwnLL w lo w.heap.size eo e (.slice none 0 0) [] [] :=
  ⟨Own.nil w lo eo, rfl, fun k u L hu => by simp at hu, fun k u g hu => by simp at hu, fun j k u u' g hu => by simp at hu⟩
theorem OwnLL.rd {w : World} {lo hi : Nat} {eo e : TypeId} {a : Option Addr} {n c : Nat} {vs : List Value} {LL : List (List Int)} (h : OwnLL w lo hi eo e (.slice a n c) vs LL) : RdLL w hi a LL := by
  refine ⟨vs, h.outer.rd, h.len, fun k u L hu hL => ?_⟩
  have hi' := h.inner k u L hu hL
  obtain ⟨a', c', rfl⟩ := hi'.form
  refine ⟨a', c', by rw [List.length_map], hi'.rd, ?_⟩
  rcases Nat.eq_zero_or_pos L.length with h0 | h0
  · omega
  · obtain ⟨g, c2, e2, hc⟩ := hi'.formN (by simpa using h0)
    injection e2 with _ _ e3
    rw [List.length_map] at hc
    omega
/-- one list more, its block beyond all that there was: the outer list anew or in its place -/
theorem OwnLL.push {w w' : World} {lo hi hi' : Nat} {eo e : TypeId} {v v' u : Value} {vs : List Value} {LL : List (List Int)} {L : List Int} (h : OwnLL w lo hi eo e v vs LL)
    (ho : Own w' lo hi' eo v' (vs ++ [u])) (hin : ∀ (k : Nat) u L, vs[k]? = some u → LL[k]? = some L → Own w' lo hi' e u (ints L)) (hu : Own w' lo hi' e u (ints L))
    (h1 : ∀ g, u.ownBlock = some g → v'.ownBlock ≠ some g) (h2 : ∀ (k : Nat) x g, vs[k]? = some x → x.ownBlock = some g → v'.ownBlock ≠ some g ∧ u.ownBlock ≠ some g) : OwnLL w' lo hi' eo e v' (vs ++ [u]) (LL ++ [L]) := by
  have hl := h.len
  refine ⟨ho, by simp [hl], fun k x M hx hM => ?_, fun k x g hx hg => ?_, fun j k x y g hx hy hgx hgy => ?_⟩
  · by_cases hk : k < vs.length
    · rw [List.getElem?_append_left hk] at hx
      rw [List.getElem?_append_left (by omega)] at hM
      exact hin k x M hx hM
    · rw [List.getElem?_append_right (by omega)] at hx
      rw [List.getElem?_append_right (by omega)] at hM
      have e0 : k - vs.length = 0 := by
        rcases Nat.eq_zero_or_pos (k - vs.length) with z | z
        · exact z
        · rw [List.getElem?_eq_none (by simp only [List.length_singleton]; omega)] at hx; cases hx
      rw [e0] at hx
      rw [← hl, e0] at hM
      cases hx; cases hM
      exact hu
  · by_cases hk : k < vs.length
    · rw [List.getElem?_append_left hk] at hx
      exact (h2 k x g hx hg).1
    · rw [List.getElem?_append_right (by omega)] at hx
      have e0 : k - vs.length = 0 := by
        rcases Nat.eq_zero_or_pos (k - vs.length) with z | z
        · exact z
        · rw [List.getElem?_eq_none (by simp only [List.length_singleton]; omega)] at hx; cases hx
      rw [e0] at hx
      cases hx
      exact h1 g hg
  · have last : ∀ i, ¬ i < vs.length → ∀ z, (vs ++ [u])[i]? = some z → i = vs.length ∧ z = u := fun i hi z hz => by
      rw [List.getElem?_append_right (by omega)] at hz
      have e0 : i - vs.length = 0 := by
        rcases Nat.eq_zero_or_pos (i - vs.length) with q | q
        · exact q
        · rw [List.getElem?_eq_none (by simp only [List.length_singleton]; omega)] at hz; cases hz
      rw [e0] at hz
      cases hz
      exact ⟨by omega, rfl⟩
    by_cases hj : j < vs.length
    · rw [List.getElem?_append_left hj] at hx
      by_cases hk : k < vs.length
      · rw [List.getElem?_append_left hk] at hy
        exact h.apart j k x y g hx hy hgx hgy
      · obtain ⟨_, rfl⟩ := last k hk y hy
        exact absurd hgy (h2 j x g hx hgx).2
    · obtain ⟨hj2, rfl⟩ := last j hj x hx
      by_cases hk : k < vs.length
      · rw [List.getElem?_append_left hk] at hy
        exact absurd hgx (h2 k y g hy hgy).2
      · obtain ⟨hk2, _⟩ := last k hk y hy
        omega
/-- one list more by append: its block was made behind the outer list's -/
theorem OwnLL.append {w w' : World} {lo hi lou hiu : Nat} {eo e : TypeId} {v v' u : Value} {vs : List Value} {LL : List (List Int)} {L : List Int} (h : OwnLL w lo hi eo e v vs LL)
    (hu : Own w lou hiu e u (ints L)) (hlou : hi ≤ lou) (hlo : lo ≤ lou) (ho : Own w' lo w'.heap.size eo v' (vs ++ [u])) (hg : w.grownBy w' v.ownBlock) (hat : v'.ownBlock = v.ownBlock ∨ v'.ownBlock = some w.heap.size) :
    OwnLL w' lo w'.heap.size eo e v' (vs ++ [u]) (LL ++ [L]) := by
  have hL : ∀ (k : Nat) x g, vs[k]? = some x → x.ownBlock = some g → g < hi := fun k x g hx hgx => by
    have hkv := (List.getElem?_eq_some_iff.1 hx).1
    have hkl : k < LL.length := by rw [← h.len]; exact hkv
    exact (h.inner k x LL[k] hx (List.getElem?_eq_getElem hkl)).lt g hgx
  refine h.push ho (fun k x M hx hM => ?_) ?_ (fun g hgu hv => ?_) (fun k x g hx hgx => ⟨fun hv => ?_, fun hgu => ?_⟩)
  · have hk := h.inner k x M hx hM
    refine (hk.grown hg ?_).more
    cases hb : x.ownBlock with
    | none => exact .inl rfl
    | some g => exact .inr fun e => h.apartO k x g hx hb e.symm
  · refine ((hu.grown hg ?_).more).lower hlo
    cases hb : u.ownBlock with
    | none => exact .inl rfl
    | some g => exact .inr fun e => by have h1 := hu.base g hb; have h2 := h.outer.lt g e.symm; omega
  · have h1 := hu.base g hgu
    rcases hat with e | e
    · have h2 := h.outer.lt g (e ▸ hv); omega
    · rw [e] at hv; cases hv; have h2 := hu.lt _ hgu; have h3 := hu.le; omega
  · rcases hat with e | e
    · exact h.apartO k x g hx hgx (e ▸ hv)
    · rw [e] at hv; cases hv; have h2 := hL k x _ hx hgx; have h3 := h.le; omega
  · have h1 := hu.base g hgu; have h2 := hL k x g hx hgx; omega
/-- the k-th list, its block and its place -/
theorem OwnLL.at_ {w : World} {lo hi : Nat} {eo e : TypeId} {a : Option Addr} {n c : Nat} {vs : List Value} {LL : List (List Int)} (h : OwnLL w lo hi eo e (.slice a n c) vs LL) {k : Nat} (hk : k < LL.length) :
    ∃ g a' c', a = some ⟨g, 0, none⟩ ∧ lo ≤ g ∧ g < hi ∧ w.cell? ⟨g, k, none⟩ = some (.slice a' LL[k].length c') ∧ Own w lo hi e (.slice a' LL[k].length c') (ints LL[k]) ∧ vs[k]? = some (.slice a' LL[k].length c') := by
  have hkv : k < vs.length := by rw [h.len]; exact hk
  obtain ⟨g, c1, e1, h1, h2, h3, _⟩ := h.outer.at_ hkv
  injection e1 with e1 _ _
  have hi' := h.inner k vs[k] LL[k] (List.getElem?_eq_getElem hkv) (List.getElem?_eq_getElem hk)
  obtain ⟨a', c', e2⟩ := hi'.form
  rw [List.length_map] at e2
  exact ⟨g, a', c', e1, h1, h2, by rw [h3, e2], e2 ▸ hi', by rw [List.getElem?_eq_getElem hkv, e2]⟩
/-- one list written anew in its place -/
theorem OwnLL.setIn {w w' : World} {lo hi : Nat} {eo e : TypeId} {v u : Value} {vs : List Value} {LL : List (List Int)} {L : List Int} (h : OwnLL w lo hi eo e v vs LL) {k : Nat} (hk : vs[k]? = some u)
    (hg : w.grownBy w' u.ownBlock) (hu : Own w' lo hi e u (ints L)) : OwnLL w' lo hi eo e v vs (LL.set k L) := by
  have hv : v.ownBlock = none ∨ v.ownBlock ≠ u.ownBlock := by
    cases hb : v.ownBlock with
    | none => exact .inl rfl
    | some g => exact .inr fun e => h.apartO k u g hk e.symm hb
  refine ⟨h.outer.grown hg hv, by rw [List.length_set]; exact h.len, fun j x M hx hM => ?_, h.apartO, h.apart⟩
  rw [List.getElem?_set] at hM
  by_cases hj : k = j
  · subst hj
    rw [if_pos rfl] at hM
    split at hM
    · cases hM
      obtain rfl : x = u := by rw [hk] at hx; cases hx; rfl
      exact hu
    · cases hM
  · rw [if_neg hj] at hM
    refine (h.inner j x M hx hM).grown hg ?_
    cases hb : x.ownBlock with
    | none => exact .inl rfl
    | some g => exact .inr fun e => hj (h.apart k j u x g hk hx e.symm hb)
/-- the marks of lists, one behind another -/
def marksLL (m : Int) : List (List Int) → List (List Int)
  | [] => []
  | L :: R => ((List.range L.length).map fun (j : Nat) => m + (j : Int)) :: marksLL (m + (L.length : Int)) R
def cntLL (LL : List (List Int)) : Nat := (LL.map List.length).sum
theorem cntLL_append (A : List (List Int)) (L : List Int) : cntLL (A ++ [L]) = cntLL A + L.length := by simp [cntLL]
theorem marksLL_append (m : Int) (A : List (List Int)) (L : List Int) : marksLL m (A ++ [L]) = marksLL m A ++ [(List.range L.length).map fun (j : Nat) => (m + (cntLL A : Int)) + (j : Int)] := by
  induction A generalizing m with
  | nil => simp [marksLL, cntLL]
  | cons x R ih =>
    have e : m + (x.length : Int) + (cntLL R : Int) = m + (cntLL (x :: R) : Int) := by simp [cntLL]; omega
    show _ :: marksLL (m + (x.length : Int)) (R ++ [L]) = _
    rw [ih, e]
    rfl
theorem marksLL_len (m : Int) (A : List (List Int)) : (marksLL m A).length = A.length := by
  induction A generalizing m with
  | nil => rfl
  | cons x R ih => simp [marksLL, ih]
theorem cntLL_take (LL : List (List Int)) (k : Nat) : cntLL (LL.take k) ≤ cntLL LL := by
  induction LL generalizing k with
  | nil => simp [cntLL]
  | cons x R ih =>
    cases k with
    | zero => simp [cntLL]
    | succ k => have := ih k; simp [cntLL] at this ⊢; omega
/-- one list more is marked -/
theorem marksLL_set (m : Int) {LL : List (List Int)} {k : Nat} (hk : k < LL.length) :
    (marksLL m (LL.take k) ++ LL.drop k).set k ((List.range LL[k].length).map fun (j : Nat) => (m + (cntLL (LL.take k) : Int)) + (j : Int)) = marksLL m (LL.take (k + 1)) ++ LL.drop (k + 1) := by
  have e1 : (marksLL m (LL.take k)).length = k := by rw [marksLL_len, List.length_take]; omega
  rw [List.drop_eq_getElem_cons hk, List.set_append_right _ _ (by omega), e1, Nat.sub_self, List.set_cons_zero, List.take_succ_eq_append_getElem hk, marksLL_append]
  simp
theorem marksLL_get (m : Int) (LL : List (List Int)) (k : Nat) (hk : k < LL.length) (hh : k < (marksLL m LL).length) :
    (marksLL m LL)[k] = (List.range LL[k].length).map fun (j : Nat) => (m + (cntLL (LL.take k) : Int)) + (j : Int) := by
  induction LL generalizing m k with
  | nil => simp at hk
  | cons x R ih =>
    cases k with
    | zero => simp [marksLL, cntLL]
    | succ k =>
      have h2 : k < (marksLL (m + (x.length : Int)) R).length := by rw [marksLL_len]; simpa using hk
      have := ih (m + (x.length : Int)) k (by simpa using hk) h2
      have e : m + (x.length : Int) + (cntLL (R.take k) : Int) = m + (cntLL ((x :: R).take (k + 1)) : Int) := by simp [cntLL]; omega
      rw [e] at this
      exact this
theorem OwnLL.lt {w : World} {lo hi : Nat} {eo e : TypeId} {v : Value} {vs : List Value} {LL : List (List Int)} (h : OwnLL w lo hi eo e v vs LL) {k : Nat} {x : Value} {g : Nat} (hx : vs[k]? = some x) (hg : x.ownBlock = some g) : lo ≤ g ∧ g < hi := by
  have hkv := (List.getElem?_eq_some_iff.1 hx).1
  have hkl : k < LL.length := by rw [← h.len]; exact hkv
  have hi' := h.inner k x LL[k] hx (List.getElem?_eq_getElem hkl)
  exact ⟨hi'.base g hg, hi'.lt g hg⟩
/-- many lists more by append: theirs were made behind the outer list's -/
theorem OwnLL.appendAll {w w' : World} {lo hi lox hix : Nat} {eo e : TypeId} {v v' vx : Value} {vs vsx : List Value} {LL LLx : List (List Int)} (h : OwnLL w lo hi eo e v vs LL)
    (hx : OwnLL w lox hix eo e vx vsx LLx) (hd : hi ≤ lox) (hlo : lo ≤ lox) (ho : Own w' lo w'.heap.size eo v' (vs ++ vsx)) (hg : w.grownBy w' v.ownBlock) (hat : v'.ownBlock = v.ownBlock ∨ v'.ownBlock = some w.heap.size) :
    OwnLL w' lo w'.heap.size eo e v' (vs ++ vsx) (LL ++ LLx) := by
  have hl := h.len
  have L1 : ∀ {k : Nat} {x : Value} {g : Nat}, vs[k]? = some x → x.ownBlock = some g → lo ≤ g ∧ g < hi := fun a b => h.lt a b
  have L2 : ∀ {k : Nat} {x : Value} {g : Nat}, vsx[k]? = some x → x.ownBlock = some g → lox ≤ g ∧ g < hix := fun a b => hx.lt a b
  have hle := h.le
  have hlx := hx.le
  refine ⟨ho, by simp [hl, hx.len], fun k x M hk hM => ?_, fun k x g hk hgx hv => ?_, fun j k x y g hj hk hgx hgy => ?_⟩
  · by_cases hkv : k < vs.length
    · rw [List.getElem?_append_left hkv] at hk
      rw [List.getElem?_append_left (by omega)] at hM
      refine ((h.inner k x M hk hM).grown hg ?_).more
      cases hb : x.ownBlock with
      | none => exact .inl rfl
      | some g => exact .inr fun e => h.apartO k x g hk hb e.symm
    · rw [List.getElem?_append_right (by omega)] at hk
      rw [List.getElem?_append_right (by omega), ← hl] at hM
      refine (((hx.inner _ x M hk hM).grown hg ?_).more).lower hlo
      cases hb : x.ownBlock with
      | none => exact .inl rfl
      | some g => exact .inr fun e => by have h1 := L2 hk hb; have h2 := h.outer.lt g e.symm; omega
  · by_cases hkv : k < vs.length
    · rw [List.getElem?_append_left hkv] at hk
      rcases hat with e | e
      · exact h.apartO k x g hk hgx (e ▸ hv)
      · rw [e] at hv; cases hv; have h2 := L1 hk hgx; omega
    · rw [List.getElem?_append_right (by omega)] at hk
      have h2 := L2 hk hgx
      rcases hat with e | e
      · have h1 := h.outer.lt g (e ▸ hv); omega
      · rw [e] at hv; cases hv; omega
  · by_cases hjv : j < vs.length
    · rw [List.getElem?_append_left hjv] at hj
      by_cases hkv : k < vs.length
      · rw [List.getElem?_append_left hkv] at hk
        exact h.apart j k x y g hj hk hgx hgy
      · rw [List.getElem?_append_right (by omega)] at hk
        have h1 := L1 hj hgx; have h2 := L2 hk hgy; omega
    · rw [List.getElem?_append_right (by omega)] at hj
      by_cases hkv : k < vs.length
      · rw [List.getElem?_append_left hkv] at hk
        have h1 := L2 hj hgx; have h2 := L1 hk hgy; omega
      · rw [List.getElem?_append_right (by omega)] at hk
        have := hx.apart _ _ x y g hj hk hgx hgy
        omega
theorem Own.single (w : World) (u : Value) (e : TypeId) : Own (w.alloc (.cells #[u] e)) w.heap.size (w.heap.size + 1) e (.slice (some ⟨w.heap.size, 0, none⟩) 1 1) [u] :=
  ⟨⟨rfl, .inr ⟨w.heap.size, 1, #[u], rfl, Nat.le_refl _, heap_alloc_new w _, Nat.le_refl _, by decide, rfl, rfl⟩⟩, fun g hg => by simp [Value.ownBlock] at hg; omega, by simp⟩
/-- a list of one list -/
theorem OwnLL.single {w : World} {lo hi : Nat} {eo e : TypeId} {u : Value} {L : List Int} (hu : Own w lo hi e u (ints L)) (hlo : lo ≤ w.heap.size) :
    OwnLL (w.alloc (.cells #[u] eo)) lo (w.heap.size + 1) eo e (.slice (some ⟨w.heap.size, 0, none⟩) 1 1) [u] [L] := by
  have hle := hu.le
  have one : ∀ (k : Nat) x, [u][k]? = some x → k = 0 ∧ x = u := fun k x hx => by
    match k, hx with
    | 0, hx => simp at hx; exact ⟨rfl, hx.symm⟩
  refine ⟨(Own.single w u eo).lower hlo, rfl, fun k x M hx hM => ?_, fun k x g hx hg hv => ?_, fun j k x y g hx hy _ _ => ?_⟩
  · obtain ⟨rfl, rfl⟩ := one k x hx
    simp at hM
    subst hM
    have h := hu.alloc (.cells #[x] eo)
    exact ⟨h.row, fun g hg => by have := h.lt g hg; omega, by simp⟩
  · obtain ⟨rfl, rfl⟩ := one k x hx
    have := hu.lt g hg
    simp [Value.ownBlock] at hv
    omega
  · rw [(one j x hx).1, (one k y hy).1]
end Go.Proofs.Ytcjnmconehfbgaa
namespace Go.Proofs.Ytcjnmconehfbgaa
open Go.RowKit NP
set_option maxRecDepth 8000
/-- a function value that tells of each diagram of parts whether K holds of them, in every later world -/
def IsK (w : World) (v : Value) (K : List Int → Bool) : Prop := ∃ (f : Nat) (p c : Array Value), v = .func (.func f) p c ∧ (∀ (args : Array Value) (w : World), (callFunc f args).run Try.prog w = .ok (.enter f args) w) ∧ ∀ w1, Below w.heap.size w w1 → ∀ L, valid L = true →
  Calls Try.prog f (p.push (.agg (arr (pad L))) ++ c) w1 fun e w2 => e = .returned (.bool (K L)) ∧ Below w1.heap.size w1 w2
end Go.Proofs.Ytcjnmconehfbgaa
namespace Go.Proofs.Ytcjnmconehfbgaa
open Go.RowKit Go.Shelf NP
set_option maxRecDepth 8000
set_option linter.unusedVariables false
set_option linter.unusedSimpArgs false
attribute [local go_sem] Oper.semAt_some
section
variable {w w' : World} {lo hi : Nat} {eo e : TypeId} {v : Value} {vs : List Value}
theorem Own.stay (h : Own w lo hi e v vs) (hs : w.heap.size ≤ w'.heap.size) (hk : ∀ (g : Nat) (cs : Array Value), w.heap[g]? = some (.cells cs e (0, 0)) → w'.heap[g]? = w.heap[g]?) : Own w' lo hi e v vs :=
  h.keep hs fun g hg => by
    rcases h.row.2 with ⟨h1, _⟩ | ⟨g', cap, cur, h1, _, hb, _⟩
    · rw [h1] at hg; simp [Value.ownBlock] at hg
    · rw [h1] at hg
      simp [Value.ownBlock] at hg
      subst hg
      exact hk _ _ hb
theorem OwnLL.stay {LL : List (List Int)} (h : OwnLL w lo hi eo e v vs LL) (hs : w.heap.size ≤ w'.heap.size) (hk : ∀ (g : Nat) (cs : Array Value), w.heap[g]? = some (.cells cs eo (0, 0)) → w'.heap[g]? = w.heap[g]?) (hk2 : ∀ (g : Nat) (cs : Array Value), w.heap[g]? = some (.cells cs e (0, 0)) → w'.heap[g]? = w.heap[g]?) : OwnLL w' lo hi eo e v vs LL :=
  ⟨h.outer.stay hs hk, h.len, fun k u L hu hL => (h.inner k u L hu hL).stay hs hk2, h.apartO, h.apart⟩
end
theorem opIn_val {F : Fence} {n : Nat} {P : Program} {o : Oper} {a : Act} {w w' : World} {K : Act → World → Prop} {Q : Exit → Act → World → Prop} {v : Value} (hab : o.about P w a.eval = none)
    (h : (o.semAt F.round a.eval).run P w = .ok (.value v) w') (hK : K (a.put o.dst v) w') : o.wpIn F n P a w K Q :=
  ⟨fun f hf => (by rw [hab] at hf; cases hf), (by rw [h]; exact hK)⟩
theorem opIn_loadv {F : Fence} {n : Nat} {P : Program} {o : Oper} {a : Act} {w w' : World} {K : Act → World → Prop} {Q : Exit → Act → World → Prop} {v : Value} (ty : TypeId) (x : Operand) (ho : o.op = .load ty x) (p : Addr) (hx : a.eval x = .pointer (some p))
    (hrun : (loadVar ty p).run P w = .ok v w') (hK : K (a.put o.dst v) w') : o.wpIn F n P a w K Q :=
  opIn_val (by simp [Oper.about, ho]) (by
    rw [Oper.semAt_plain F _ _ (by rw [ho]; intro c hc; cases hc)]
    simp only [execOp, ho, hx, Instr.loadAt, Instr.sureAddr, Sem.run_bind, Sem.run_pure, Result.andThen_ok, hrun]) hK
def IW (w : World) (H : VL → Bool) (fv : Value) (pre : List VL) (W : World) : Prop :=
  (∃ v vs, Blk W (w.heap.size + 1) 36 #[v] ∧ OwnLL W (w.heap.size + 2) W.heap.size 22 3 v vs ((pre.filter H).map (·.1))) ∧ Blk W w.heap.size 91 #[fv] ∧ Below w.heap.size w W
theorem iw_from (w : World) (H : VL → Bool) (fv : Value) (B : Nat) (hB : w.heap.size ≤ B) : OwnFrom B (IW w H fv) := by
  rintro s W W' row ⟨⟨v, vs, h1, h2⟩, h3, h4⟩ hg hr
  have ne : ∀ (g : Nat) (cs : Array Value) (t : TypeId), W.heap[g]? = some (.cells cs t (0, 0)) → some g ≠ row := fun g cs t hc e => by
    obtain ⟨_, o, ho, hc'⟩ := hr g e.symm
    rw [hc] at ho; injection ho with ho; subst ho; simp [Obj.isCells] at hc'
  have kp : ∀ (g : Nat) (cs : Array Value) (t : TypeId), W.heap[g]? = some (.cells cs t (0, 0)) → W'.heap[g]? = W.heap[g]? := fun g cs t hc => hg.block g (Array.getElem?_eq_some_iff.1 hc).1 (ne g cs t hc)
  exact ⟨⟨v, vs, h1.grown hg (ne _ _ _ h1), (h2.stay hg.size (fun g cs hc => kp g cs _ hc) (fun g cs hc => kp g cs _ hc)).more⟩, h3.grown hg (ne _ _ _ h3), h4.grown hg h4.size (fun k e => Nat.le_trans hB (hr k e).1)⟩
theorem iw_abt (w : World) (H : VL → Bool) (fv : Value) (B : Nat) (hB : w.heap.size ≤ B) : AbT B 54 (IW w H fv) := by
  refine ⟨?_, ?_, ?_⟩
  · rintro s W o ⟨⟨v, vs, h1, h2⟩, h3, h4⟩
    have kp : ∀ (g : Nat) (cs : Array Value) (t : TypeId), W.heap[g]? = some (.cells cs t (0, 0)) → (W.alloc o).heap[g]? = W.heap[g]? := fun g cs t hc => Below.heap_alloc W o g (Array.getElem?_eq_some_iff.1 hc).1
    exact ⟨⟨v, vs, h1.alloc o, (h2.stay (by simp) (fun g cs hc => kp g cs _ hc) (fun g cs hc => kp g cs _ hc)).more⟩, h3.alloc o, h4.alloc h4.size o⟩
  · rintro s W n ⟨⟨v, vs, h1, h2⟩, h3, h4⟩
    exact ⟨⟨v, vs, h1, (h2.stay (w' := W.drewN n) (Nat.le_refl _) (fun g cs hc => rfl) (fun g cs hc => rfl)).more⟩, h3, h4.trans ((Dr.n W n).below _)⟩
  · rintro s W b i u cs fr ⟨⟨v, vs, h1, h2⟩, h3, h4⟩ hb hc
    have ne : ∀ (g : Nat) (cs' : Array Value) (t : TypeId), t ≠ 54 → W.heap[g]? = some (.cells cs' t (0, 0)) → g ≠ b := fun g cs' t ht hg e => by
      subst e; rw [hc] at hg; injection hg with hg; injection hg with _ hg _; exact ht hg.symm
    have kp : ∀ (g : Nat) (cs' : Array Value) (t : TypeId), t ≠ 54 → W.heap[g]? = some (.cells cs' t (0, 0)) → (W.setCell ⟨b, i, none⟩ u).heap[g]? = W.heap[g]? := fun g cs' t ht hg => Below.heap_setCell W ⟨b, i, none⟩ u g (ne g cs' t ht hg)
    exact ⟨⟨v, vs, h1.off (ne _ _ _ (by decide) h1) _, (h2.stay (by simp [World.setCell]) (fun g cs hc => kp g cs _ (by decide) hc) (fun g cs hc => kp g cs _ (by decide) hc)).more⟩, h3.off (ne _ _ _ (by decide) h3) _, h4.setCell (p := ⟨b, i, none⟩) (Nat.le_trans hB hb) u⟩

theorem iw_below {w : World} {H : VL → Bool} {fv : Value} {pre : List VL} {W W' : World} (h : IW w H fv pre W) (hb : Below W.heap.size W W') : IW w H fv pre W' := by
  obtain ⟨⟨v, vs, h1, h2⟩, h3, h4⟩ := h
  exact ⟨⟨v, vs, h1.below hb h1.lt, (h2.below hb).more⟩, h3.below hb h3.lt, h4.trans (hb.mono h4.size)⟩
theorem ko_below {W W' : World} (hb : Below W.heap.size W W') : KeepsOthers W W' := ⟨hb.size, fun j o hj _ => (hb.block j (Array.getElem?_eq_some_iff.1 hj).1).trans hj⟩
theorem T_ints2 : (Try.prog.info? 22).map (fun i => (i.zero, i.size, i.bytes)) = some (some (.slice none 0 0), 1, 24) := by kernel_rfl
theorem opIn_append {F : Fence} {n : Nat} {P : Program} {o : Oper} {a : Act} {w w' : World} {K : Act → World → Prop} {Q : Exit → Act → World → Prop} {v v' : Value} {A : Option Addr} {m c : Nat} (s x : Operand) (t : TypeId)
    (ho : o.op = .call { callee := .builtin .append, args := #[s, x], argTypes := #[t, t] }) (hs : a.eval s = v) (hx : a.eval x = .slice A m c)
    (hrun : (Builtin.append_ #[t, t] o.type #[v, .slice A m c]).run P w = .ok v' w') (hK : K (a.put o.dst v') w') : o.wpIn F n P a w K Q :=
  opIn_val (by simp [Oper.about, ho, resolve, Target.leads, Sem.run_pure]) (by
    rw [Oper.semAt_plain F _ _ (by rw [ho]; intro c hc; cases hc)]
    simp [execOp, ho, resolve, invoke, builtin, hs, hx, hrun, Result.andThen]) hK
theorem opIn_store {F : Fence} {n : Nat} {P : Program} {o : Oper} {a : Act} {w w' : World} {K : Act → World → Prop} {Q : Exit → Act → World → Prop} (ty : TypeId) (x y : Operand)
    (ho : o.op = .store ty x y) (p : Addr) (hx : a.eval x = .pointer (some p)) (hrun : (storeVar ty p (a.eval y)).run P w = .ok () w') (hK : K (a.put o.dst undef) w') : o.wpIn F n P a w K Q :=
  ⟨fun f hf => (by simp [Oper.about, ho] at hf), (by
    rw [Oper.semAt_plain F _ _ (by rw [ho]; intro c hc; cases hc)]
    simp only [execOp, ho, hx, Instr.storeAt, Instr.sureAddr, Sem.run_bind, Sem.run_pure, Result.andThen_ok, hrun]
    exact hK)⟩
theorem allQ_few : (List.range 17).all (fun k => decide ((allQ k k k).length ≤ 1000)) = true := by decide +kernel
theorem allQ_len {k : Nat} (hk : k ≤ 16) : (allQ k k k).length ≤ 1000 := by
  have := List.all_eq_true.1 allQ_few k (by simp; omega)
  simpa using this
theorem round_end {w W W3 W4 : World} {H : VL → Bool} {fv : Value} {pre : List VL} {x : VL} {v v' : Value} {vs : List Value} {u : Option Addr} {lu hiu : Nat}
    (hLL : OwnLL W (w.heap.size + 2) W.heap.size 22 3 v vs ((pre.filter H).map (·.1))) (hb5 : Blk W (w.heap.size + 1) 36 #[v]) (hb3 : Blk W w.heap.size 91 #[fv]) (hB : Below w.heap.size w W) (hH : H x = true)
    (hB3 : Below W.heap.size W W3) (hu : Own W3 lu hiu 3 (.slice u x.1.length x.1.length) (ints x.1)) (hlu : W.heap.size ≤ lu) (ho4 : Own W4 (w.heap.size + 2) W4.heap.size 22 v' (vs ++ [.slice u x.1.length x.1.length]))
    (hg4 : W3.grownBy W4 v.ownBlock) (hat4 : v'.ownBlock = v.ownBlock ∨ v'.ownBlock = some W3.heap.size) :
    KeepsOthers W (W4.setCell ⟨w.heap.size + 1, 0, none⟩ v') ∧ KpT 54 W (W4.setCell ⟨w.heap.size + 1, 0, none⟩ v') ∧ IW w H fv (pre ++ [x]) (W4.setCell ⟨w.heap.size + 1, 0, none⟩ v') := by
  have hl5 := hb5.lt
  have hbase := hLL.outer.base
  have b3 : Blk W3 (w.heap.size + 1) 36 #[v] := hb5.below hB3 hb5.lt
  have b4 : Blk W4 (w.heap.size + 1) 36 #[v] := b3.grown hg4 (fun e => by have := hbase _ e.symm; omega)
  have f3 : Blk W3 w.heap.size 91 #[fv] := hb3.below hB3 hb3.lt
  have f4 : Blk W4 w.heap.size 91 #[fv] := f3.grown hg4 (fun e => by have := hbase _ e.symm; omega)
  have hz : W.heap.size ≤ W4.heap.size := Nat.le_trans hB3.size hg4.size
  have hk : ∀ j, j < W.heap.size → some j ≠ v.ownBlock → j ≠ w.heap.size + 1 → (W4.setCell ⟨w.heap.size + 1, 0, none⟩ v').heap[j]? = W.heap[j]? := fun j hj h1 h2 =>
    (Below.heap_setCell W4 ⟨w.heap.size + 1, 0, none⟩ v' j h2).trans ((hg4.block j (Nat.lt_of_lt_of_le hj hB3.size) h1).trans (hB3.block j hj))
  have hvb : ∀ g, v.ownBlock = some g → ∃ cs, W.heap[g]? = some (.cells cs 22 (0, 0)) := fun g hg => by
    rcases hLL.outer.row.2 with ⟨h1, _⟩ | ⟨g', cap, cur, h1, _, hb, _⟩
    · rw [h1] at hg; simp [Value.ownBlock] at hg
    · rw [h1] at hg
      simp [Value.ownBlock] at hg
      subst hg
      exact ⟨_, hb⟩
  have hs5 : (W4.setCell ⟨w.heap.size + 1, 0, none⟩ v').heap.size = W4.heap.size := by simp [World.setCell]
  refine ⟨⟨by rw [hs5]; exact hz, fun j o hj ho => (hk j (Array.getElem?_eq_some_iff.1 hj).1 ?_ ?_).trans hj⟩, ⟨by rw [hs5]; exact hz, fun b cs fr hb => (hk b (Array.getElem?_eq_some_iff.1 hb).1 ?_ ?_).trans hb⟩, ?_⟩
  · intro e
    obtain ⟨cs, hc⟩ := hvb j e.symm
    rw [hc] at hj; injection hj with hj; subst hj; simp [Obj.isCells] at ho
  · intro e
    subst e
    rw [show W.heap[w.heap.size + 1]? = _ from hb5] at hj; injection hj with hj; subst hj; simp [Obj.isCells] at ho
  · intro e
    obtain ⟨cs', hc⟩ := hvb b e.symm
    rw [hc] at hb; injection hb with hb; injection hb with _ hb _; exact absurd hb (by decide)
  · intro e
    subst e
    rw [show W.heap[w.heap.size + 1]? = _ from hb5] at hb; injection hb with hb; injection hb with _ hb _; exact absurd hb (by decide)
  · have hne : ∀ (g : Nat) (cs : Array Value) (t : TypeId), t ≠ 36 → W4.heap[g]? = some (.cells cs t (0, 0)) → g ≠ w.heap.size + 1 := fun g cs t ht hg e => by
      subst e
      rw [show W4.heap[w.heap.size + 1]? = _ from b4] at hg; injection hg with hg; injection hg with _ hg _; exact ht hg.symm
    have hLL4 := (hLL.below hB3).append hu hlu (by omega) ho4 hg4 hat4
    have hLL5 := hLL4.stay (w' := W4.setCell ⟨w.heap.size + 1, 0, none⟩ v') (by rw [hs5]; exact Nat.le_refl _) (fun g cs hc => Below.heap_setCell W4 ⟨w.heap.size + 1, 0, none⟩ v' g (hne g cs _ (by decide) hc)) (fun g cs hc => Below.heap_setCell W4 ⟨w.heap.size + 1, 0, none⟩ v' g (hne g cs _ (by decide) hc))
    have hf : ((pre ++ [x]).filter H).map (·.1) = (pre.filter H).map (·.1) ++ [x.1] := by rw [List.filter_append]; simp [hH]
    refine ⟨⟨v', vs ++ [.slice u x.1.length x.1.length], b4.set 0 v', ?_⟩, f4.off (by show w.heap.size ≠ w.heap.size + 1; omega) _, ?_⟩
    · rw [hf]; exact hLL5.more
    · exact ((hB.trans (hB3.mono hB.size)).grown hg4 (Nat.le_trans hB.size hB3.size) (fun g e => by have := hbase g e; omega)).setCell (p := ⟨w.heap.size + 1, 0, none⟩) (by show w.heap.size ≤ w.heap.size + 1; omega) _
def AxW (w : World) (k : Nat) (fv : Value) (x : VL) (a' : Act) (W : World) : Prop := ∃ Bx, w.heap.size + 2 ≤ Bx ∧ Blk W Bx 54 (arr (pad x.1)) ∧
  a' = { tmps := #[.int .i64 k, fv, undef, .pointer (some ⟨w.heap.size, 0, none⟩), .slice none 0 0, .pointer (some ⟨w.heap.size + 1, 0, none⟩), .pointer (some ⟨Bx, 0, none⟩), .int .i64 k, .func (.func 91) #[] #[.pointer (some ⟨w.heap.size + 1 + 1, 0, none⟩)], .agg (arr (pad x.1)), undef, undef, undef, undef, undef, undef, undef, undef, undef], defers := [] }

set_option maxRecDepth 100000 in
set_option maxHeartbeats 4000000 in
theorem partsWhere_any (k : Nat) (hk : k ≤ 16) (fv : Value) (H0 : List Int → Bool) (w : World) (hfv : IsK w fv H0) (H : VL → Bool) (hH0 : ∀ x : VL, H x = H0 x.1) :
    Calls Try.prog 80 #[.int .i64 k, fv] w fun e w' => ∃ (xs : List VL) (a' : Option Addr) (c' : Nat) (vs : List Value), xs.map (·.1) = allQ k k k ∧ e = .returned (.slice a' ((xs.filter H).map (·.1)).length c') ∧ OwnLL w' w.heap.size w'.heap.size 22 3 (.slice a' ((xs.filter H).map (·.1)).length c') vs ((xs.filter H).map (·.1)) ∧ Below w.heap.size w w' := by
  refine (callsIn_wide (n := 6)).1 ?_
  obtain ⟨ff, fp, fc, rfl, he, hh⟩ := hfv
  refine callsIn_of_wp_marks Try.func80 rfl trivial ?_ rfl
  simp only [Try.ntmps80, List.size_toArray, List.length_cons, List.length_nil, Nat.reduceAdd, Nat.reduceSub, Array.replicate_succ, Array.replicate_zero, List.push_toArray, List.append_toArray, List.nil_append, List.cons_append]
  gi_wp2_with ((refine ⟨trivial, ?_⟩; gi_at_call 74; refine (dwith_in Fence.wide _ trivial rfl _ _).mono ?_; rintro e w' ⟨rfl, rfl⟩))
  obtain ⟨W0, hW0⟩ : ∃ W0, (((w.alloc (.cells #[.func (.func ff) fp fc] 91)).alloc (.cells #[.slice none 0 0] 36)).alloc (.cells #[.int .i64 k] 3)) = W0 := ⟨_, rfl⟩
  have hs0 : W0.heap.size = w.heap.size + 3 := by rw [← hW0]; simp
  have hb3 : Blk W0 w.heap.size 91 #[.func (.func ff) fp fc] := by rw [← hW0]; exact ((Blk.new w _ _).alloc _).alloc _
  have hb5 : Blk W0 (w.heap.size + 1) 36 #[.slice none 0 0] := by
    rw [← hW0]
    have e := (Blk.new (w.alloc (.cells #[.func (.func ff) fp fc] 91)) 36 #[.slice none 0 0]).alloc (.cells #[.int .i64 k] 3)
    rw [World.size_alloc] at e
    exact e
  have hbn : W0.cell? ⟨w.heap.size + 1 + 1, 0, none⟩ = some (.int .i64 k) := by
    rw [← hW0]
    have e := Blk.new ((w.alloc (.cells #[.func (.func ff) fp fc] 91)).alloc (.cells #[.slice none 0 0] 36)) 3 #[.int .i64 k]
    rw [World.size_alloc, World.size_alloc] at e
    rw [e.cell 0]
    rfl
  have hB0 : Below w.heap.size w W0 := by rw [← hW0]; exact (((Below.refl _ _).alloc (Nat.le_refl _) _).alloc (by simp) _).alloc (by simp; omega) _
  rw [hW0]
  have hI0 : IW w H (.func (.func ff) fp fc) [] W0 := ⟨⟨_, [], hb5, by rw [show w.heap.size + 2 = w.heap.size + 2 from rfl]; exact (OwnLL.nil W0 (w.heap.size + 2) _ _)⟩, hb3, hB0⟩
  clear hb3 hb5 hB0 hW0
  refine wpIn_range_T 54 rfl (by omega) (gf := 91) (lb := #[.pointer (some ⟨w.heap.size + 1 + 1, 0, none⟩)]) rfl trivial (enters_of Try.func91 (by kernel_rfl) rfl)
    (dwith_seq Fence.wide rfl trivial trivial rfl (6 - 1) k (w.heap.size + 1 + 1) hk W0 (by omega) hbn) (Below.refl _ _) (fun _ => rfl)
    (IW w H (.func (.func ff) fp fc)) (fun _ _ _ => False) (iw_from w H _ _ (by omega)) (fun _ _ _ _ _ h _ _ => h) (iw_abt w H _ _ (by omega)) (fun _ => ⟨fun _ _ _ h => h, fun _ _ _ h => h, fun _ _ _ _ _ _ _ h _ _ => h⟩) hI0
    (AxW w k (.func (.func ff) fp fc)) ?hax ?assign ?body ?done ?stop
  case hax =>
    rintro a' s W W' row ⟨Bx, hBx, hb, rfl⟩ hg hr
    refine ⟨Bx, hBx, hb.grown hg (fun e => ?_), rfl⟩
    obtain ⟨_, o, ho, hc⟩ := hr Bx e.symm
    rw [show W.heap[Bx]? = _ from hb] at ho; injection ho with ho; subst ho; simp [Obj.isCells] at hc
  case assign =>
    intro l pre x W K hi hK
    have hlen : x.1.length ≤ 16 := (valid_bd x.2).2.2.2
    have hi16 : (Try.prog.info? 54).map (·.size) = some (arr (pad x.1)).size := by rw [arr_size, pad_len hlen]; exact T_info35
    have hszx : (arr (pad x.1)).size = (arr (List.replicate 16 0)).size := by rw [arr_size, arr_size, pad_len hlen]; rfl
    have hbz := Blk.new W 54 (arr (List.replicate 16 0))
    have hbw : Below W.heap.size W ((W.alloc (.cells (arr (List.replicate 16 0)) 54)).setRow W.heap.size (arr (pad x.1))) := below_setRow' ((Below.refl _ _).alloc (Nat.le_refl _) _) (Nat.le_refl _) _
    have hlt := hi.1.choose_spec.choose_spec.1.lt
    gi_wp2_with (refine wpListIn_store_row rfl 54 (.tmp 6) (.tmp 9) rfl W.heap.size (arr (pad x.1)) rfl rfl (run_storeVar_row _ W.heap.size 54 54 _ _ hbz hi16 hszx (arr_one _)) ?_)
    exact hK _ _ (ko_below hbw) (KpT.below hbw) (iw_below hi hbw) ⟨W.heap.size, by omega, hbz.row, rfl⟩
  case body =>
    rintro l pre x a' W ⟨⟨v, vs, hb5, hLL⟩, hb3, hB⟩ ⟨Bx, hBx, hbx, rfl⟩ hlen
    have hpl : x.1.length ≤ 16 := (valid_bd x.2).2.2.2
    have hi16 : (Try.prog.info? 54).map (·.size) = some (arr (pad x.1)).size := by rw [arr_size, pad_len hpl]; exact T_info35
    have c3 : W.cell? ⟨w.heap.size, 0, none⟩ = some (.func (.func ff) fp fc) := by rw [hb3.cell 0]; rfl
    have hhx := hh W hB x.1 x.2
    rw [← hH0] at hhx
    have hIW : IW w H (.func (.func ff) fp fc) pre W := ⟨⟨v, vs, hb5, hLL⟩, hb3, hB⟩
    cases hH : H x with
    | false =>
      rw [hH] at hhx
      have hf : (pre ++ [x]).filter H = pre.filter H := by rw [List.filter_append]; simp [hH]
      gi_wp2_with (first
        | (refine wpListIn_load_row rfl 54 (.tmp 6) rfl Bx rfl 54 (arr (pad x.1)) (0, 0) _ hbx Try.underlying54 rfl hi16 ?_)
        | (refine ⟨trivial, ?_⟩; refine (CallsIn.inRound l (callsIn_wide.2 hhx)).mono ?_; rintro e W1 ⟨rfl, hb1⟩))
      refine ⟨ko_below hb1, KpT.below hb1, ?_⟩
      have := iw_below hIW hb1
      unfold IW at this ⊢
      rw [hf]
      exact this
    | true =>
      rw [hH] at hhx
      gi_wp2_with (first
        | (refine wpListIn_load_row rfl 54 (.tmp 6) rfl Bx rfl 54 (arr (pad x.1)) (0, 0) _ hbx Try.underlying54 rfl hi16 ?_)
        | (refine ⟨trivial, ?_⟩; refine (CallsIn.inRound l (callsIn_wide.2 hhx)).mono ?_; rintro e W1 ⟨rfl, hb1⟩))
      have hmx : Try.prog.follows .mixedOrders = true := by kernel_rfl
      obtain ⟨i22, hi22, hq0, hq1, hq2⟩ := info_parts T_ints2
      have hvl : vs.length ≤ 1000 := by
        have h1 := hLL.len
        have h2 := List.length_filter_le H pre
        have h3 := allQ_len hk
        rw [List.length_map] at h1
        omega
      have hIW1 := iw_below hIW hb1
      have hbx1 := hbx.below hb1 hbx.lt
      refine wpIn_region_any hmx ?_
      obtain ⟨y, hy⟩ : ∃ y, W1.drew = y := ⟨_, rfl⟩
      change wpAnyIn _ _ _ _ _ _ _ _ _ (World.drew _)
      rw [hy]
      have hb1y : Below W.heap.size W y := by rw [← hy]; exact hb1.trans ((Dr.n W1 1).below _)
      have hb5y : Blk y (w.heap.size + 1) 36 #[v] := hb5.below hb1y hb5.lt
      have c5y : y.cell? ⟨w.heap.size + 1, 0, none⟩ = some v := by rw [hb5y.cell 0]; rfl
      have hlt5y : w.heap.size + 1 < y.heap.size := hb5y.lt
      have hbxy : Blk y Bx 54 (arr (pad x.1)) := hbx.below hb1y hbx.lt
      have hld := run_loadVar_row y Bx 54 54 (arr (pad x.1)) (0, 0) _ hbxy Try.underlying54 rfl hi16
      refine wpAnyIn_ready (rs := [0, 1]) (by kernel_rfl) (by simp) ?_
      refine AllReadyIn.cons rfl (fun K hK => ?_) ?_
      · skip
        rw [if_pos (by rfl)]
        refine opIn_val (v := v) (w' := y) (by simp [Oper.about]) (by have hc := c5y; go_simp) ?_
        refine hK _ _ ?_
        clear hK K
        try simp only [Act.put, List.setIfInBounds_toArray, List.set_cons_zero, List.set_cons_succ]
        refine wpAnyIn_ready (rs := [1]) (by kernel_rfl) (by simp) ?_
        refine AllReadyIn.cons rfl (fun K hK => ?_) AllReadyIn.nil
        rw [if_pos (by rfl)]
        refine opIn_loadv 54 (.tmp 6) rfl ⟨Bx, 0, none⟩ rfl hld ?_
        refine hK _ _ ?_
        clear hK K
        try simp only [Act.put, List.setIfInBounds_toArray, List.set_cons_zero, List.set_cons_succ]
        refine wpAnyIn_ready (rs := [2]) (by kernel_rfl) (by simp) ?_
        refine AllReadyIn.cons rfl (fun K hK => ?_) AllReadyIn.nil
        rw [if_pos (by rfl)]
        go_simp
        refine ⟨trivial, ?_⟩
        gi_at_call 94
        refine (CallsIn.inRound l (callsIn_wide.2 (list_any x.1 x.2 y))).mono ?_
        rintro e W2 ⟨u, rfl, hu, hb2⟩
        have hB2 := hb1y.trans (hb2.mono hb1y.size)
        have c5b : W2.cell? ⟨w.heap.size + 1, 0, none⟩ = some v := (hb2.cell (p := ⟨w.heap.size + 1, 0, none⟩) hlt5y).trans c5y
        have hu' := hu
        obtain ⟨W3, hW3⟩ : ∃ W3, W2.alloc (.cells #[.slice u x.1.length x.1.length] 22) = W3 := ⟨_, rfl⟩
        have c5c : W3.cell? ⟨w.heap.size + 1, 0, none⟩ = some v := by rw [← hW3]; exact (((Below.refl W2.heap.size W2).alloc (Nat.le_refl _) _).cell (p := ⟨w.heap.size + 1, 0, none⟩) (World.block_lt_of_cell? W2 _ c5b)).trans c5b
        refine hK _ _ ?_
        clear hK K
        try simp only [Act.put, List.setIfInBounds_toArray, List.set_cons_zero, List.set_cons_succ]
        refine wpAnyIn_ready (rs := [3]) (by kernel_rfl) (by simp) ?_
        refine AllReadyIn.cons rfl (fun K hK => ?_) AllReadyIn.nil
        rw [if_pos (by rfl)]
        refine opIn_val (v := .slice (some ⟨W2.heap.size, 0, none⟩) 1 1) (w' := W3) (by simp [Oper.about]) (by rw [← hW3]; go_simp) ?_
        refine hK _ _ ?_
        clear hK K
        try simp only [Act.put, List.setIfInBounds_toArray, List.set_cons_zero, List.set_cons_succ]
        refine wpAnyIn_ready (rs := [4]) (by kernel_rfl) (by simp) ?_
        refine AllReadyIn.cons rfl (fun K hK => ?_) AllReadyIn.nil
        rw [if_pos (by rfl)]
        have hoW3 : Own W3 (w.heap.size + 2) W.heap.size 22 v vs := by rw [← hW3]; exact (hLL.outer.below hB2).alloc _
        have hrW3 : Rd W3 (W2.heap.size + 1) (some ⟨W2.heap.size, 0, none⟩) [.slice u x.1.length x.1.length] := by rw [← hW3]; exact Rd.one W2 _ _
        have hs3 : W3.heap.size = W2.heap.size + 1 := by rw [← hW3]; simp
        have hB3 : Below W.heap.size W W3 := by rw [← hW3]; exact hB2.alloc hB2.size _
        obtain ⟨v', W4, hrun, ho4, hg4, hat4⟩ := run_append_o (P := Try.prog) (m := 1) (c := 1) W3 (w.heap.size + 2) W.heap.size 36 36 22 i22 (.slice none 0 0) 24 Try.underlying36 hi22 hq0 hq1 hq2 rfl hoW3 hrW3 rfl (by simp; rfl) (by unfold maxLen; omega) (by omega) (by have := hb5.lt; have := hB3.size; omega)
        refine opIn_append (.tmp 13) (.tmp 16) 36 rfl rfl rfl hrun ?_
        refine hK _ _ ?_
        clear hK K
        try simp only [Act.put, List.setIfInBounds_toArray, List.set_cons_zero, List.set_cons_succ]
        refine wpAnyIn_ready (rs := [5]) (by kernel_rfl) (by simp) ?_
        refine AllReadyIn.cons rfl (fun K hK => ?_) AllReadyIn.nil
        have b5c : Blk W3 (w.heap.size + 1) 36 #[v] := hb5.below hB3 hb5.lt
        have b5d : Blk W4 (w.heap.size + 1) 36 #[v] := b5c.grown hg4 (fun e => by have := hoW3.base _ e.symm; omega)
        have c5d : W4.cell? ⟨w.heap.size + 1, 0, none⟩ = some v := by rw [b5d.cell 0]; rfl
        have f5d : W4.frozen? ⟨w.heap.size + 1, 0, none⟩ = false := b5d.free 0
        rw [if_pos (by rfl)]
        refine opIn_store 36 (.tmp 5) (.tmp 17) rfl ⟨w.heap.size + 1, 0, none⟩ rfl (w' := W4.setCell ⟨w.heap.size + 1, 0, none⟩ v') (by have hq := c5d; have hq' := f5d; obtain ⟨av, cv, rfl⟩ := ho4.form; go_simp) ?_
        refine hK _ _ ?_
        clear hK K
        try simp only [Act.put, List.setIfInBounds_toArray, List.set_cons_zero, List.set_cons_succ]
        refine wpAnyIn_done (by kernel_rfl) ?_ _
        exact round_end hLL hb5 hb3 hB hH hB3 (by rw [← hW3]; exact hu'.alloc _) hb1y.size ho4 hg4 hat4
      refine AllReadyIn.cons rfl (fun K hK => ?_) AllReadyIn.nil
      rw [if_pos (by rfl)]
      refine opIn_loadv 54 (.tmp 6) rfl ⟨Bx, 0, none⟩ rfl hld ?_
      refine hK _ _ ?_
      clear hK K
      try simp only [Act.put, List.setIfInBounds_toArray, List.set_cons_zero, List.set_cons_succ]
      refine wpAnyIn_ready (rs := [0, 2]) (by kernel_rfl) (by simp) ?_
      refine AllReadyIn.cons rfl (fun K hK => ?_) ?_
      · skip
        rw [if_pos (by rfl)]
        refine opIn_val (v := v) (w' := y) (by simp [Oper.about]) (by have hc := c5y; go_simp) ?_
        refine hK _ _ ?_
        clear hK K
        try simp only [Act.put, List.setIfInBounds_toArray, List.set_cons_zero, List.set_cons_succ]
        refine wpAnyIn_ready (rs := [2]) (by kernel_rfl) (by simp) ?_
        refine AllReadyIn.cons rfl (fun K hK => ?_) AllReadyIn.nil
        rw [if_pos (by rfl)]
        go_simp
        refine ⟨trivial, ?_⟩
        gi_at_call 94
        refine (CallsIn.inRound l (callsIn_wide.2 (list_any x.1 x.2 y))).mono ?_
        rintro e W2 ⟨u, rfl, hu, hb2⟩
        have hB2 := hb1y.trans (hb2.mono hb1y.size)
        have c5b : W2.cell? ⟨w.heap.size + 1, 0, none⟩ = some v := (hb2.cell (p := ⟨w.heap.size + 1, 0, none⟩) hlt5y).trans c5y
        have hu' := hu
        obtain ⟨W3, hW3⟩ : ∃ W3, W2.alloc (.cells #[.slice u x.1.length x.1.length] 22) = W3 := ⟨_, rfl⟩
        have c5c : W3.cell? ⟨w.heap.size + 1, 0, none⟩ = some v := by rw [← hW3]; exact (((Below.refl W2.heap.size W2).alloc (Nat.le_refl _) _).cell (p := ⟨w.heap.size + 1, 0, none⟩) (World.block_lt_of_cell? W2 _ c5b)).trans c5b
        refine hK _ _ ?_
        clear hK K
        try simp only [Act.put, List.setIfInBounds_toArray, List.set_cons_zero, List.set_cons_succ]
        refine wpAnyIn_ready (rs := [3]) (by kernel_rfl) (by simp) ?_
        refine AllReadyIn.cons rfl (fun K hK => ?_) AllReadyIn.nil
        rw [if_pos (by rfl)]
        refine opIn_val (v := .slice (some ⟨W2.heap.size, 0, none⟩) 1 1) (w' := W3) (by simp [Oper.about]) (by rw [← hW3]; go_simp) ?_
        refine hK _ _ ?_
        clear hK K
        try simp only [Act.put, List.setIfInBounds_toArray, List.set_cons_zero, List.set_cons_succ]
        refine wpAnyIn_ready (rs := [4]) (by kernel_rfl) (by simp) ?_
        refine AllReadyIn.cons rfl (fun K hK => ?_) AllReadyIn.nil
        rw [if_pos (by rfl)]
        have hoW3 : Own W3 (w.heap.size + 2) W.heap.size 22 v vs := by rw [← hW3]; exact (hLL.outer.below hB2).alloc _
        have hrW3 : Rd W3 (W2.heap.size + 1) (some ⟨W2.heap.size, 0, none⟩) [.slice u x.1.length x.1.length] := by rw [← hW3]; exact Rd.one W2 _ _
        have hs3 : W3.heap.size = W2.heap.size + 1 := by rw [← hW3]; simp
        have hB3 : Below W.heap.size W W3 := by rw [← hW3]; exact hB2.alloc hB2.size _
        obtain ⟨v', W4, hrun, ho4, hg4, hat4⟩ := run_append_o (P := Try.prog) (m := 1) (c := 1) W3 (w.heap.size + 2) W.heap.size 36 36 22 i22 (.slice none 0 0) 24 Try.underlying36 hi22 hq0 hq1 hq2 rfl hoW3 hrW3 rfl (by simp; rfl) (by unfold maxLen; omega) (by omega) (by have := hb5.lt; have := hB3.size; omega)
        refine opIn_append (.tmp 13) (.tmp 16) 36 rfl rfl rfl hrun ?_
        refine hK _ _ ?_
        clear hK K
        try simp only [Act.put, List.setIfInBounds_toArray, List.set_cons_zero, List.set_cons_succ]
        refine wpAnyIn_ready (rs := [5]) (by kernel_rfl) (by simp) ?_
        refine AllReadyIn.cons rfl (fun K hK => ?_) AllReadyIn.nil
        have b5c : Blk W3 (w.heap.size + 1) 36 #[v] := hb5.below hB3 hb5.lt
        have b5d : Blk W4 (w.heap.size + 1) 36 #[v] := b5c.grown hg4 (fun e => by have := hoW3.base _ e.symm; omega)
        have c5d : W4.cell? ⟨w.heap.size + 1, 0, none⟩ = some v := by rw [b5d.cell 0]; rfl
        have f5d : W4.frozen? ⟨w.heap.size + 1, 0, none⟩ = false := b5d.free 0
        rw [if_pos (by rfl)]
        refine opIn_store 36 (.tmp 5) (.tmp 17) rfl ⟨w.heap.size + 1, 0, none⟩ rfl (w' := W4.setCell ⟨w.heap.size + 1, 0, none⟩ v') (by have hq := c5d; have hq' := f5d; obtain ⟨av, cv, rfl⟩ := ho4.form; go_simp) ?_
        refine hK _ _ ?_
        clear hK K
        try simp only [Act.put, List.setIfInBounds_toArray, List.set_cons_zero, List.set_cons_succ]
        refine wpAnyIn_done (by kernel_rfl) ?_ _
        exact round_end hLL hb5 hb3 hB hH hB3 (by rw [← hW3]; exact hu'.alloc _) hb1y.size ho4 hg4 hat4
      refine AllReadyIn.cons rfl (fun K hK => ?_) AllReadyIn.nil
      rw [if_pos (by rfl)]
      go_simp
      refine ⟨trivial, ?_⟩
      gi_at_call 94
      refine (CallsIn.inRound l (callsIn_wide.2 (list_any x.1 x.2 y))).mono ?_
      rintro e W2 ⟨u, rfl, hu, hb2⟩
      have hB2 := hb1y.trans (hb2.mono hb1y.size)
      have c5b : W2.cell? ⟨w.heap.size + 1, 0, none⟩ = some v := (hb2.cell (p := ⟨w.heap.size + 1, 0, none⟩) hlt5y).trans c5y
      have hu' := hu
      obtain ⟨W3, hW3⟩ : ∃ W3, W2.alloc (.cells #[.slice u x.1.length x.1.length] 22) = W3 := ⟨_, rfl⟩
      have c5c : W3.cell? ⟨w.heap.size + 1, 0, none⟩ = some v := by rw [← hW3]; exact (((Below.refl W2.heap.size W2).alloc (Nat.le_refl _) _).cell (p := ⟨w.heap.size + 1, 0, none⟩) (World.block_lt_of_cell? W2 _ c5b)).trans c5b
      refine hK _ _ ?_
      clear hK K
      try simp only [Act.put, List.setIfInBounds_toArray, List.set_cons_zero, List.set_cons_succ]
      refine wpAnyIn_ready (rs := [0, 3]) (by kernel_rfl) (by simp) ?_
      refine AllReadyIn.cons rfl (fun K hK => ?_) ?_
      · skip
        rw [if_pos (by rfl)]
        refine opIn_val (v := v) (w' := W2) (by simp [Oper.about]) (by have hc := c5b; go_simp) ?_
        refine hK _ _ ?_
        clear hK K
        try simp only [Act.put, List.setIfInBounds_toArray, List.set_cons_zero, List.set_cons_succ]
        refine wpAnyIn_ready (rs := [3]) (by kernel_rfl) (by simp) ?_
        refine AllReadyIn.cons rfl (fun K hK => ?_) AllReadyIn.nil
        rw [if_pos (by rfl)]
        refine opIn_val (v := .slice (some ⟨W2.heap.size, 0, none⟩) 1 1) (w' := W3) (by simp [Oper.about]) (by rw [← hW3]; go_simp) ?_
        refine hK _ _ ?_
        clear hK K
        try simp only [Act.put, List.setIfInBounds_toArray, List.set_cons_zero, List.set_cons_succ]
        refine wpAnyIn_ready (rs := [4]) (by kernel_rfl) (by simp) ?_
        refine AllReadyIn.cons rfl (fun K hK => ?_) AllReadyIn.nil
        rw [if_pos (by rfl)]
        have hoW3 : Own W3 (w.heap.size + 2) W.heap.size 22 v vs := by rw [← hW3]; exact (hLL.outer.below hB2).alloc _
        have hrW3 : Rd W3 (W2.heap.size + 1) (some ⟨W2.heap.size, 0, none⟩) [.slice u x.1.length x.1.length] := by rw [← hW3]; exact Rd.one W2 _ _
        have hs3 : W3.heap.size = W2.heap.size + 1 := by rw [← hW3]; simp
        have hB3 : Below W.heap.size W W3 := by rw [← hW3]; exact hB2.alloc hB2.size _
        obtain ⟨v', W4, hrun, ho4, hg4, hat4⟩ := run_append_o (P := Try.prog) (m := 1) (c := 1) W3 (w.heap.size + 2) W.heap.size 36 36 22 i22 (.slice none 0 0) 24 Try.underlying36 hi22 hq0 hq1 hq2 rfl hoW3 hrW3 rfl (by simp; rfl) (by unfold maxLen; omega) (by omega) (by have := hb5.lt; have := hB3.size; omega)
        refine opIn_append (.tmp 13) (.tmp 16) 36 rfl rfl rfl hrun ?_
        refine hK _ _ ?_
        clear hK K
        try simp only [Act.put, List.setIfInBounds_toArray, List.set_cons_zero, List.set_cons_succ]
        refine wpAnyIn_ready (rs := [5]) (by kernel_rfl) (by simp) ?_
        refine AllReadyIn.cons rfl (fun K hK => ?_) AllReadyIn.nil
        have b5c : Blk W3 (w.heap.size + 1) 36 #[v] := hb5.below hB3 hb5.lt
        have b5d : Blk W4 (w.heap.size + 1) 36 #[v] := b5c.grown hg4 (fun e => by have := hoW3.base _ e.symm; omega)
        have c5d : W4.cell? ⟨w.heap.size + 1, 0, none⟩ = some v := by rw [b5d.cell 0]; rfl
        have f5d : W4.frozen? ⟨w.heap.size + 1, 0, none⟩ = false := b5d.free 0
        rw [if_pos (by rfl)]
        refine opIn_store 36 (.tmp 5) (.tmp 17) rfl ⟨w.heap.size + 1, 0, none⟩ rfl (w' := W4.setCell ⟨w.heap.size + 1, 0, none⟩ v') (by have hq := c5d; have hq' := f5d; obtain ⟨av, cv, rfl⟩ := ho4.form; go_simp) ?_
        refine hK _ _ ?_
        clear hK K
        try simp only [Act.put, List.setIfInBounds_toArray, List.set_cons_zero, List.set_cons_succ]
        refine wpAnyIn_done (by kernel_rfl) ?_ _
        exact round_end hLL hb5 hb3 hB hH hB3 (by rw [← hW3]; exact hu'.alloc _) hb1y.size ho4 hg4 hat4
      refine AllReadyIn.cons rfl (fun K hK => ?_) AllReadyIn.nil
      rw [if_pos (by rfl)]
      refine opIn_val (v := .slice (some ⟨W2.heap.size, 0, none⟩) 1 1) (w' := W3) (by simp [Oper.about]) (by rw [← hW3]; go_simp) ?_
      refine hK _ _ ?_
      clear hK K
      try simp only [Act.put, List.setIfInBounds_toArray, List.set_cons_zero, List.set_cons_succ]
      refine wpAnyIn_ready (rs := [0]) (by kernel_rfl) (by simp) ?_
      refine AllReadyIn.cons rfl (fun K hK => ?_) AllReadyIn.nil
      rw [if_pos (by rfl)]
      refine opIn_val (v := v) (w' := W3) (by simp [Oper.about]) (by have hc := c5c; go_simp) ?_
      refine hK _ _ ?_
      clear hK K
      try simp only [Act.put, List.setIfInBounds_toArray, List.set_cons_zero, List.set_cons_succ]
      refine wpAnyIn_ready (rs := [4]) (by kernel_rfl) (by simp) ?_
      refine AllReadyIn.cons rfl (fun K hK => ?_) AllReadyIn.nil
      rw [if_pos (by rfl)]
      have hoW3 : Own W3 (w.heap.size + 2) W.heap.size 22 v vs := by rw [← hW3]; exact (hLL.outer.below hB2).alloc _
      have hrW3 : Rd W3 (W2.heap.size + 1) (some ⟨W2.heap.size, 0, none⟩) [.slice u x.1.length x.1.length] := by rw [← hW3]; exact Rd.one W2 _ _
      have hs3 : W3.heap.size = W2.heap.size + 1 := by rw [← hW3]; simp
      have hB3 : Below W.heap.size W W3 := by rw [← hW3]; exact hB2.alloc hB2.size _
      obtain ⟨v', W4, hrun, ho4, hg4, hat4⟩ := run_append_o (P := Try.prog) (m := 1) (c := 1) W3 (w.heap.size + 2) W.heap.size 36 36 22 i22 (.slice none 0 0) 24 Try.underlying36 hi22 hq0 hq1 hq2 rfl hoW3 hrW3 rfl (by simp; rfl) (by unfold maxLen; omega) (by omega) (by have := hb5.lt; have := hB3.size; omega)
      refine opIn_append (.tmp 13) (.tmp 16) 36 rfl rfl rfl hrun ?_
      refine hK _ _ ?_
      clear hK K
      try simp only [Act.put, List.setIfInBounds_toArray, List.set_cons_zero, List.set_cons_succ]
      refine wpAnyIn_ready (rs := [5]) (by kernel_rfl) (by simp) ?_
      refine AllReadyIn.cons rfl (fun K hK => ?_) AllReadyIn.nil
      have b5c : Blk W3 (w.heap.size + 1) 36 #[v] := hb5.below hB3 hb5.lt
      have b5d : Blk W4 (w.heap.size + 1) 36 #[v] := b5c.grown hg4 (fun e => by have := hoW3.base _ e.symm; omega)
      have c5d : W4.cell? ⟨w.heap.size + 1, 0, none⟩ = some v := by rw [b5d.cell 0]; rfl
      have f5d : W4.frozen? ⟨w.heap.size + 1, 0, none⟩ = false := b5d.free 0
      rw [if_pos (by rfl)]
      refine opIn_store 36 (.tmp 5) (.tmp 17) rfl ⟨w.heap.size + 1, 0, none⟩ rfl (w' := W4.setCell ⟨w.heap.size + 1, 0, none⟩ v') (by have hq := c5d; have hq' := f5d; obtain ⟨av, cv, rfl⟩ := ho4.form; go_simp) ?_
      refine hK _ _ ?_
      clear hK K
      try simp only [Act.put, List.setIfInBounds_toArray, List.set_cons_zero, List.set_cons_succ]
      refine wpAnyIn_done (by kernel_rfl) ?_ _
      exact round_end hLL hb5 hb3 hB hH hB3 (by rw [← hW3]; exact hu'.alloc _) hb1y.size ho4 hg4 hat4

  case done =>
    rintro D ys W hD hS hIW hK
    clear hH0
    have hIW2 := (iw_from w H (.func (.func ff) fp fc) w.heap.size (Nat.le_refl _)).putObj (.deferred none) hIW (by omega) hK rfl
    obtain ⟨⟨v, vs, hb5, hLL⟩, hb3, hB⟩ := hIW
    obtain ⟨⟨v2, vs2, hb52, hLL2⟩, -, hB2⟩ := hIW2
    have c5 : W.cell? ⟨w.heap.size + 1, 0, none⟩ = some v := by rw [hb5.cell 0]; rfl
    have hvv : v2 = v := by
      have hne : w.heap.size + 1 ≠ D := by rintro rfl; rw [show W.heap[w.heap.size + 1]? = _ from hb5] at hK; cases hK
      have e := (World.putObj_heap_other (w := W) (o := .deferred none) hne).symm.trans (show (W.putObj D (.deferred none)).heap[w.heap.size + 1]? = _ from hb52)
      rw [show W.heap[w.heap.size + 1]? = _ from hb5] at e
      injection e with e
      injection e with e _ _
      injection e with e
      simpa using e.symm
    subst hvv
    obtain ⟨av, cv, rfl⟩ := hLL.form
    gi_wp2
    refine ⟨by simp, .inl ⟨_, _, rfl, run_takeDeferred hK, ?_⟩⟩
    refine ⟨_, results_tmp rfl _ _ _, ys, av, cv, vs2, hS, by simp, hLL2.lower (by omega), hB2⟩
  case stop =>
    rintro D c pre W _ _ h _
    exact h.elim
end Go.Proofs.Ytcjnmconehfbgaa
namespace Go.Proofs.Ytcjnmconehfbgaa
open Go.RowKit NP
set_option maxRecDepth 8000
set_option linter.unusedVariables false
set_option linter.unusedSimpArgs false
theorem filter_VL {xs : List VL} {l : List (List Int)} (h : xs.map (·.1) = l) (H0 : List Int → Bool) : (xs.filter (fun x => H0 x.1)).map (·.1) = l.filter H0 := by
  rw [← h, List.filter_map]; rfl
theorem partsWhere_all (k : Nat) (hk : k ≤ 16) (fv : Value) (H0 : List Int → Bool) (w : World) (hfv : IsK w fv H0) :
    Calls Try.prog 80 #[.int .i64 k, fv] w fun e w' => ∃ (a' : Option Addr) (c' : Nat) (vs : List Value), e = .returned (.slice a' ((allQ k k k).filter H0).length c') ∧ OwnLL w' w.heap.size w'.heap.size 22 3 (.slice a' ((allQ k k k).filter H0).length c') vs ((allQ k k k).filter H0) ∧ Below w.heap.size w w' := by
  refine (partsWhere_any k hk fv H0 w hfv (fun x => H0 x.1) (fun _ => rfl)).mono ?_
  rintro e w' ⟨xs, a', c', vs, hxs, rfl, hLL, hb⟩
  have e1 := filter_VL hxs H0
  rw [e1] at hLL
  exact ⟨a', c', vs, by rw [e1], hLL, hb⟩
end Go.Proofs.Ytcjnmconehfbgaa
namespace Go.Proofs.Ytcjnmconehfbgaa
open Go.RowKit NP
set_option maxRecDepth 8000
set_option linter.unusedVariables false
theorem keepD2 {wr wx w' : World} {p q : Addr} {x y : Value} (h1 : wx.cell? p = some x) (h2 : wx.cell? q = some y) (h3 : Dr wr wx) (hd : Dr wx w') : w'.cell? p = some x ∧ w'.cell? q = some y ∧ Dr wr w' := by
  obtain ⟨n, rfl⟩ := hd
  exact ⟨h1, h2, h3.drewN n⟩

theorem eqIntSS_same (a b : Option Addr) (ca cb Ba Bb : Nat) (LL : List (List Int)) (w : World) (h : RdLL w Ba a LL) (hm : RdLL w Bb b LL) (hl : LL.length ≤ 4611686018427387904) (hil : ∀ L ∈ LL, L.length ≤ 4611686018427387904) :
    Calls Try.prog 33 #[.slice a LL.length ca, .slice b LL.length cb] w fun e w' => e = .returned (.bool true) ∧ Dr w w' := by
  have hne : ((LL.length : Int) != (LL.length : Int)) = false := by simp
  go_enter Try.func33, Try.ntmps33
  go_wp2
  go_loopw [5] (fun i wr => ∃ k : Nat, k ≤ LL.length ∧ i = .int .i64 k ∧ Dr w wr) (fun i _ => LL.length - (intOf i).toNat)
  case atStart => exact ⟨0, Nat.zero_le _, rfl, Dr.refl _⟩
  case round =>
    obtain ⟨k, hk, rfl, hdr⟩ := hrel
    by_cases hlt : k < LL.length
    · obtain ⟨b1, o1, a1, c1, rfl, -, hc1, hr1, -⟩ := (h.dr hdr).at_ hlt
      obtain ⟨b2, o2, a2, c2, rfl, -, hc2, hr2, -⟩ := (hm.dr hdr).at_ hlt
      have hil' := hil LL[k] (List.getElem_mem hlt)
      clear hil h hm
      generalize LL[k] = M at hc1 hc2 hr1 hr2 hil'
      go_wp2_with fail
      go_region_held3 (fun w' => w'.cell? ⟨b1, o1 + k, none⟩ = some (.slice a1 M.length c1) ∧ w'.cell? ⟨b2, o2 + k, none⟩ = some (.slice a2 M.length c2) ∧ Dr wr w') (first | exact ⟨hc1, hc2, Dr.n wr 1⟩ | exact keepD2 (by assumption) (by assumption) (Dr.n wr 1) hd)
        (first | (go_at_call 15; refine (eqIntS_same a1 a2 c1 c2 Ba Bb M _ (hr1.dr (Dr.n wr 1)) (hr2.dr (Dr.n wr 1)) hil').mono ?_; rintro e w' ⟨rfl, hd⟩))
      have hdw : Dr wr w' := by obtain ⟨n, rfl⟩ := hd; exact (Dr.n wr 1).drewN n
      go_wp2_with fail
      go_roundw
      case rel => exact ⟨k + 1, by omega, by go_num, by obtain ⟨n, rfl⟩ := hdw; exact hdr.drewN n⟩
      case measure => simp [intOf]; omega
    · obtain rfl : k = LL.length := by omega
      go_wp2
      go_ret
      exact ⟨rfl, hdr⟩

theorem equalLists_same (a b : Option Addr) (ca cb Ba Bb : Nat) (LL : List (List Int)) (w : World) (h : RdLL w Ba a LL) (hm : RdLL w Bb b LL) (hl : LL.length ≤ 4611686018427387904) (hil : ∀ L ∈ LL, L.length ≤ 4611686018427387904) :
    Calls Try.prog 37 #[.slice a LL.length ca, .slice b LL.length cb] w fun e w' => e = .returned (.bool true) ∧ Dr w w' := by
  have hne : ((LL.length : Int) != (LL.length : Int)) = false := by simp
  go_enter Try.func37, Try.ntmps37
  go_wp2
  go_loopw [5] (fun i wr => ∃ k : Nat, k ≤ LL.length ∧ i = .int .i64 k ∧ Dr w wr) (fun i _ => LL.length - (intOf i).toNat)
  case atStart => exact ⟨0, Nat.zero_le _, rfl, Dr.refl _⟩
  case round =>
    obtain ⟨k, hk, rfl, hdr⟩ := hrel
    by_cases hlt : k < LL.length
    · obtain ⟨b1, o1, a1, c1, rfl, -, hc1, hr1, -⟩ := (h.dr hdr).at_ hlt
      obtain ⟨b2, o2, a2, c2, rfl, -, hc2, hr2, -⟩ := (hm.dr hdr).at_ hlt
      have hil' := hil LL[k] (List.getElem_mem hlt)
      clear hil h hm
      generalize LL[k] = M at hc1 hc2 hr1 hr2 hil'
      go_wp2_with fail
      go_region_held3 (fun w' => w'.cell? ⟨b1, o1 + k, none⟩ = some (.slice a1 M.length c1) ∧ w'.cell? ⟨b2, o2 + k, none⟩ = some (.slice a2 M.length c2) ∧ Dr wr w') (first | exact ⟨hc1, hc2, Dr.n wr 1⟩ | exact keepD2 (by assumption) (by assumption) (Dr.n wr 1) hd)
        (first | (go_at_call 19; refine (equalInts_same a1 a2 c1 c2 Ba Bb M _ (hr1.dr (Dr.n wr 1)) (hr2.dr (Dr.n wr 1)) hil').mono ?_; rintro e w' ⟨rfl, hd⟩))
      have hdw : Dr wr w' := by obtain ⟨n, rfl⟩ := hd; exact (Dr.n wr 1).drewN n
      go_wp2_with fail
      go_roundw
      case rel => exact ⟨k + 1, by omega, by go_num, by obtain ⟨n, rfl⟩ := hdw; exact hdr.drewN n⟩
      case measure => simp [intOf]; omega
    · obtain rfl : k = LL.length := by omega
      go_wp2
      go_ret
      exact ⟨rfl, hdr⟩
theorem markIntSS_any (a : Option Addr) (c lo hi : Nat) (m : Int) (LL : List (List Int)) (vs : List Value) (w : World) (h : OwnLL w lo hi 22 3 (.slice a LL.length c) vs LL) (hlo : lo ≤ hi) (hm : 0 ≤ m) (hm2 : m ≤ 1073741824) (hl : cntLL LL ≤ 1073741824) (hl2 : LL.length ≤ 1073741824) :
    Calls Try.prog 34 #[.slice a LL.length c, .int .i64 m] w fun e w' => e = .returned (.int .i64 (m + (cntLL LL : Int))) ∧ OwnLL w' lo hi 22 3 (.slice a LL.length c) vs (marksLL m LL) ∧ Below lo w w' := by
  go_enter Try.func34, Try.ntmps34
  go_wp2_with fail
  go_loopw [1, 5] (fun kk i wr => ∃ k : Nat, k ≤ LL.length ∧ i = .int .i64 k ∧ kk = .int .i64 (m + (cntLL (LL.take k) : Int)) ∧ Below lo w wr ∧ OwnLL wr lo hi 22 3 (.slice a LL.length c) vs (marksLL m (LL.take k) ++ LL.drop k)) (fun _ i _ => LL.length - (intOf i).toNat)
  case atStart => exact ⟨0, Nat.zero_le _, rfl, by simp [cntLL], Below.refl _ _, by simpa [marksLL] using h⟩
  case round =>
    obtain ⟨k, hk, rfl, rfl, hbr, hor⟩ := hrel
    clear h
    have hck := cntLL_take LL k
    by_cases hlt : k < LL.length
    · have hge : ∀ hh, (marksLL m (LL.take k) ++ LL.drop k)[k]'hh = LL[k] := fun hh => by
        have e1 : (marksLL m (LL.take k)).length = k := by rw [marksLL_len, List.length_take]; omega
        rw [List.getElem_append_right (by omega)]
        simp [e1]
      obtain ⟨g, a', c', rfl, hg1, hg2, hcell, hown, hvs⟩ := hor.at_ (k := k) (by simp [marksLL_len]; omega)
      rw [hge] at hcell hown hvs
      have hset := marksLL_set m hlt
      have hcs : cntLL (LL.take (k + 1)) = cntLL (LL.take k) + LL[k].length := by rw [List.take_succ_eq_append_getElem hlt, cntLL_append]
      have hck1 := cntLL_take LL (k + 1)
      rw [hcs] at hck1
      have HCS := Lib.hid hcs
      have HSET := Lib.hid hset
      have HOR := Lib.hid hor
      clear hge hcs hset hor
      generalize LL[k] = M at hcell hown hvs hck1 HCS HSET
      obtain ⟨q, hq⟩ : ∃ q : Int, q = m + (cntLL (LL.take k) : Int) := ⟨_, rfl⟩
      rw [← hq]
      have hq0 : 0 ≤ q ∧ q ≤ 2147483648 := by omega
      have HQ := Lib.hid hq
      clear hq
      go_wp2_with (go_at_call 16; refine (markIntS_any a' c' lo hi q M _ hown hq0.1 (by omega) (by omega)).mono ?_; rintro e w' ⟨rfl, ho', hgr⟩)
      go_roundw
      case rel =>
        have hnew := HOR.out.setIn hvs hgr (L := (List.range M.length).map fun (j : Nat) => q + (j : Int)) ho'
        rw [HQ.out, HSET.out] at hnew
        exact ⟨k + 1, by omega, by go_num, by rw [HCS.out, HQ.out]; congr 1; omega, hbr.trans (hown.belowMark (Nat.le_trans hlo hown.le) hgr), hnew⟩
      case measure => simp [intOf]; omega
    · obtain rfl : k = LL.length := by omega
      rw [List.take_length] at *
      go_wp2_with fail
      go_ret
      exact ⟨rfl, by simpa using hor, hbr⟩

theorem heldIntSS_any (a : Option Addr) (c B : Nat) (m : Int) (LL : List (List Int)) (w : World) (h : RdLL w B a (marksLL m LL)) (hm : 0 ≤ m) (hm2 : m ≤ 1073741824) (hl : cntLL LL ≤ 1073741824) (hl2 : LL.length ≤ 1073741824) :
    Calls Try.prog 35 #[.slice a LL.length c, .int .i64 m] w fun e w' => e = .returned (.int .i64 (m + (cntLL LL : Int))) ∧ w = w' := by
  go_enter Try.func35, Try.ntmps35
  go_wp2_with fail
  go_loopw [1, 5] (fun kk i wr => ∃ k : Nat, k ≤ LL.length ∧ i = .int .i64 k ∧ kk = .int .i64 (m + (cntLL (LL.take k) : Int)) ∧ w = wr) (fun _ i _ => LL.length - (intOf i).toNat)
  case atStart => exact ⟨0, Nat.zero_le _, rfl, by simp [cntLL], rfl⟩
  case round =>
    obtain ⟨k, hk, rfl, rfl, rfl⟩ := hrel
    have hck := cntLL_take LL k
    by_cases hlt : k < LL.length
    · have hge : ∀ hh, (marksLL m LL)[k]'hh = (List.range LL[k].length).map fun (j : Nat) => (m + (cntLL (LL.take k) : Int)) + (j : Int) := fun hh => by
        exact marksLL_get m LL k hlt hh
      obtain ⟨b, o, a', c', rfl, -, hcell, hr, -⟩ := h.at_ (k := k) (by rw [marksLL_len]; exact hlt)
      rw [hge] at hcell hr
      rw [List.length_map, List.length_range] at hcell
      have hcs : cntLL (LL.take (k + 1)) = cntLL (LL.take k) + LL[k].length := by rw [List.take_succ_eq_append_getElem hlt, cntLL_append]
      have hck1 := cntLL_take LL (k + 1)
      rw [hcs] at hck1
      have HCS := Lib.hid hcs
      clear hge hcs
      generalize LL[k] = M at hcell hr hck1 HCS
      obtain ⟨q, hq⟩ : ∃ q : Int, q = m + (cntLL (LL.take k) : Int) := ⟨_, rfl⟩
      rw [← hq] at hr ⊢
      have hq0 : 0 ≤ q ∧ q ≤ 2147483648 := by omega
      have hqn : decide (q + (M.length : Int) < 0) = false := decide_eq_false (by omega)
      have HQ := Lib.hid hq
      clear hq
      go_wp2_with (go_at_call 17; refine (heldIntS_any a' c' B M.length q _ hr hq0.1 (by omega) (by omega)).mono ?_; rintro e w' ⟨rfl, rfl⟩)
      go_roundw
      case rel => exact ⟨k + 1, by omega, by go_num, by rw [HCS.out, HQ.out]; congr 1; omega, trivial⟩
      case measure => simp [intOf]; omega
    · obtain rfl : k = LL.length := by omega
      rw [List.take_length] at *
      go_wp2_with fail
      go_ret
      exact ⟨rfl, rfl⟩
end Go.Proofs.Ytcjnmconehfbgaa
namespace Go.Proofs.Ytcjnmconehfbgaa
open Go.RowKit NP
set_option maxRecDepth 8000
set_option linter.unusedVariables false
set_option linter.unusedSimpArgs false
/-- a list put into its place: its block was made behind all others -/
theorem OwnLL.put {w : World} {lo hi lou : Nat} {eo e : TypeId} {g n c : Nat} {u : Value} {vs : List Value} {LL : List (List Int)} {L : List Int} (h : OwnLL w lo hi eo e (.slice (some ⟨g, 0, none⟩) n c) vs LL)
    (hu : Own w lou w.heap.size e u (ints L)) (hlou : hi ≤ lou) (hlo : lo ≤ lou) {k : Nat} (hk : k < vs.length) : OwnLL (w.setCell ⟨g, k, none⟩ u) lo w.heap.size eo e (.slice (some ⟨g, 0, none⟩) n c) (vs.set k u) (LL.set k L) := by
  have hgh : g < hi := h.outer.lt g rfl
  have hlen := h.len
  have hle := h.le
  refine ⟨h.outer.more.set k u, by rw [List.length_set, List.length_set]; exact hlen, fun j x M hx hM => ?_, fun j x q hx hq hv => ?_, fun i j x y q hx hy hqx hqy => ?_⟩
  · rw [List.getElem?_set] at hx hM
    by_cases hj : k = j
    · subst hj
      rw [if_pos rfl, if_pos hk] at hx
      rw [if_pos rfl, if_pos (by omega)] at hM
      cases hx; cases hM
      exact (hu.off (p := ⟨g, k, none⟩) (fun q hq e => by have := hu.base q hq; have e' : q = g := e; omega) u).lower hlo
    · rw [if_neg hj] at hx hM
      have hi' := h.inner j x M hx hM
      exact (hi'.more).off (p := ⟨g, k, none⟩) (fun q hq e => h.apartO j x q hx hq (by rw [e]; rfl)) u
  · rw [List.getElem?_set] at hx
    have hgq : g = q := by simp [Value.ownBlock] at hv; exact hv
    by_cases hj : k = j
    · subst hj
      rw [if_pos rfl, if_pos hk] at hx
      cases hx
      have := hu.base q hq
      omega
    · rw [if_neg hj] at hx
      exact h.apartO j x q hx hq hv
  · rw [List.getElem?_set] at hx hy
    by_cases hi : k = i
    · subst hi
      rw [if_pos rfl, if_pos hk] at hx
      cases hx
      by_cases hj : k = j
      · exact hj
      · rw [if_neg hj] at hy
        have h1 := h.lt hy hqy
        have h2 := hu.base q hqx
        omega
    · rw [if_neg hi] at hx
      by_cases hj : k = j
      · subst hj
        rw [if_pos rfl, if_pos hk] at hy
        cases hy
        have h1 := h.lt hx hqx
        have h2 := hu.base q hqy
        omega
      · rw [if_neg hj] at hy
        exact h.apart i j x y q hx hy hqx hqy
theorem own_nil2 (w : World) (lo hi : Nat) (e : TypeId) (h : hi ≤ w.heap.size) : Own w lo hi e (.slice none 0 0) [] :=
  ⟨World.ownsRow_nil w lo e 1, fun g hg => by simp [Value.ownBlock] at hg, h⟩
/-- a list of empty lists, laid anew -/
theorem OwnLL.zeros (w : World) (n : Nat) (eo e : TypeId) (hn : n ≤ maxLen) :
    OwnLL (w.alloc (.cells (List.replicate n (Value.slice none 0 0)).toArray eo)) w.heap.size (w.heap.size + 1) eo e (.slice (some ⟨w.heap.size, 0, none⟩) n n) (List.replicate n (Value.slice none 0 0)) (List.replicate n []) := by
  have hb := Blk.new w eo (List.replicate n (Value.slice none 0 0)).toArray
  have ho := hb.own (lo := w.heap.size) (vs := List.replicate n (Value.slice none 0 0)) (Nat.le_refl _) (by simpa using hn)
  rw [List.length_replicate, World.size_alloc] at ho
  refine ⟨ho, by simp, fun k u L hu hL => ?_, fun k u g hu hg => ?_, fun i j u u' g hu hu' hg => ?_⟩
  · have h1 := List.mem_of_getElem? hu
    have h2 := List.mem_of_getElem? hL
    rw [List.mem_replicate] at h1 h2
    rw [h1.2, h2.2]
    exact own_nil2 _ _ _ _ (by simp)
  · have h1 := List.mem_of_getElem? hu
    rw [List.mem_replicate] at h1
    rw [h1.2] at hg
    simp [Value.ownBlock] at hg
  · have h1 := List.mem_of_getElem? hu
    rw [List.mem_replicate] at h1
    rw [h1.2] at hg
    simp [Value.ownBlock] at hg
theorem run_make_lists {P : Program} (t e : TypeId) (i : TypeInfo) (h1 : P.underlying t = some (.slice e)) (h2 : P.info? e = some i) (h3 : i.zero = some (.slice none 0 0)) (h4 : i.size = 1) (h5 : i.bytes = 24)
    (n : Nat) (hn : n ≤ 4194304) (w : World) :
    (Instr.makeSlice t (.int .i64 n) (.int .i64 n)).run P w = .ok (.slice (some ⟨w.heap.size, 0, none⟩) n n) (w.alloc (.cells (List.replicate n (Value.slice none 0 0)).toArray e)) := by
  have hrun := run_make (P := P) w t e i (.slice none 0 0) h1 h2 h3 .i64 .i64 n n (by omega) (by omega) (by rw [h5]; omega) (by omega)
  rw [h4] at hrun
  simp only [Int.toNat_natCast, Nat.mul_one] at hrun
  rw [hrun]
  congr 3
  apply Array.toList_inj.1
  simp [Value.cells, toList_madeCells_one]
theorem fill_setV {us : List Value} {k n : Nat} (hk : us.length = k) (hn : k < n) (u : Value) : (us ++ List.replicate (n - k) (Value.slice none 0 0)).set k u = (us ++ [u]) ++ List.replicate (n - (k + 1)) (Value.slice none 0 0) := by
  rw [List.set_append_right _ _ (by omega), hk, Nat.sub_self, show n - k = (n - (k + 1)) + 1 by omega, List.replicate_succ, List.set_cons_zero, List.append_assoc]
  rfl
theorem fill_setL {LL : List (List Int)} {k : Nat} (hk : k < LL.length) : (LL.take k ++ List.replicate (LL.length - k) []).set k LL[k] = LL.take (k + 1) ++ List.replicate (LL.length - (k + 1)) [] := by
  rw [List.set_append_right _ _ (by simp; omega), List.length_take, Nat.min_eq_left (by omega), Nat.sub_self, show LL.length - k = (LL.length - (k + 1)) + 1 by omega, List.replicate_succ, List.set_cons_zero, List.take_succ_eq_append_getElem hk, List.append_assoc]
  rfl
/-- rows that came in, read as lists -/
theorem rows_of {w : World} {a : Addr} {len cap : Nat} {A : Nat → Option Addr} {L C : Nat → Nat} {Z : Nat → List Int} (hl : len ≤ cap)
    (h : ∀ r, r < cap → w.cell? (a.add r) = some (.slice (A r) (L r) (C r)) ∧ L r ≤ C r ∧ C r ≤ maxLen ∧ (Z r).length = C r ∧ (∀ n ∈ Z r, (Lit.int .i64 n).wf = true) ∧ (A r = none → C r = 0) ∧
      ∀ a', A r = some a' → 0 ≤ a'.block ∧ ∀ c, c < C r → w.cell? (a'.add c) = some (.int .i64 ((Z r).getD c 0))) :
    ∃ LL : List (List Int), LL.length = len ∧ RdLL w w.heap.size (some a) LL ∧ ∀ M ∈ LL, M.length ≤ maxLen := by
  have each : ∀ r, r < len → ∃ M : List Int, M.length = L r ∧ Rd w w.heap.size (A r) (ints M) ∧ M.length ≤ maxLen ∧ M.length ≤ C r := by
    intro r hr
    obtain ⟨h1, h2, h3, h4, h5, h6, h7⟩ := h r (by omega)
    have hrow : IsRow .i64 w (A r) (L r) (C r) (Z r) := by
      cases ha : A r with
      | none =>
        have := h6 ha
        exact .inl ⟨rfl, by omega, this, List.eq_nil_of_length_eq_zero (by omega)⟩
      | some x => exact .inr ⟨x, rfl, h2, h3, h4, fun i hi => (h7 x ha).2 i (by omega), h5⟩
    obtain ⟨M, e1, e2, _, e4⟩ := hrow.rd
    exact ⟨M, e1, e2, by omega, by omega⟩
  obtain ⟨y, hy⟩ := Go.Deep.choose_lt each
  refine ⟨(List.range len).map y, by simp, ⟨(List.range len).map fun r => .slice (A r) (L r) (C r), ?_, by simp, ?_⟩, ?_⟩
  · intro hne
    have h0 : 0 < len := by
      rcases Nat.eq_zero_or_pos len with h0 | h0
      · subst h0; simp at hne
      · exact h0
    obtain ⟨b, o, spot⟩ := a
    have hc0 := (h 0 (by omega)).1
    have hspot : spot = none := by simpa [Addr.add] using World.cell?_spot hc0
    subst hspot
    have hlt := World.block_lt_of_cell? _ _ hc0
    refine ⟨b, o, rfl, by simpa [Addr.add] using hlt, fun k v hv => ?_⟩
    have hk := (List.getElem?_eq_some_iff.1 hv).1
    simp at hk
    have h1 := (h k (by omega)).1
    rw [Addr.add_lit] at h1
    rw [h1]
    simpa [hk] using hv
  · intro k v M hv hM
    have hk := (List.getElem?_eq_some_iff.1 hv).1
    simp at hk
    simp [hk] at hv hM
    subst hv hM
    obtain ⟨e1, e2, e3, e4⟩ := hy k hk
    exact ⟨A k, C k, by rw [e1], e2, e4⟩
  · intro M hM
    obtain ⟨r, hr, rfl⟩ := List.mem_map.1 hM
    exact (hy r (List.mem_range.1 hr)).2.2.1
/-- what is left of a size when lists are taken from it -/
def szs (left : Int) : List (List Int) → Int
  | [] => left
  | L :: R => if left - (L.length : Int) < 0 then -1 else szs (left - (L.length : Int)) R
theorem szs_neg (left : Int) (LL : List (List Int)) (h : 0 ≤ left) (hs : 0 ≤ szs left LL) : ∀ L ∈ LL, (L.length : Int) ≤ left := by
  induction LL generalizing left with
  | nil => intro L hL; cases hL
  | cons x R ih =>
    unfold szs at hs
    split at hs
    · omega
    · rename_i h1
      intro L hL
      rcases List.mem_cons.1 hL with rfl | hL
      · omega
      · have := ih (left - (x.length : Int)) (by omega) hs L hL
        omega
theorem szs_cnt (left : Int) (LL : List (List Int)) (h : 0 ≤ left) (hs : 0 ≤ szs left LL) : (cntLL LL : Int) ≤ left := by
  induction LL generalizing left with
  | nil => simp [cntLL]; exact h
  | cons x R ih =>
    unfold szs at hs
    split at hs
    · omega
    · rename_i h1
      have := ih (left - (x.length : Int)) (by omega) hs
      simp [cntLL] at this ⊢
      omega
def szF (left : Int) (LL : List (List Int)) : Int := if left - (LL.length : Int) < 0 then -1 else szs (left - (LL.length : Int)) LL
theorem szF_ok {LL : List (List Int)} (h : 0 ≤ szF 1048576 LL) : LL.length ≤ 1048576 ∧ (∀ L ∈ LL, L.length ≤ 1048576) ∧ cntLL LL ≤ 1048576 := by
  unfold szF at h
  split at h
  · omega
  · rename_i h1
    have h2 := szs_neg _ _ (by omega) h
    have h3 := szs_cnt _ _ (by omega) h
    refine ⟨by omega, fun L hL => ?_, by omega⟩
    have := h2 L hL
    omega
theorem szs_drop (left : Int) {LL : List (List Int)} {k : Nat} (hk : k < LL.length) : szs left (LL.drop k) = if left - (LL[k].length : Int) < 0 then -1 else szs (left - (LL[k].length : Int)) (LL.drop (k + 1)) := by
  rw [List.drop_eq_getElem_cons hk]
  rfl
theorem T_ints3 : (Try.prog.info? 22).map (fun i => (i.zero, i.size, i.bytes)) = some (some (.slice none 0 0), 1, 24) := by kernel_rfl
end Go.Proofs.Ytcjnmconehfbgaa
namespace Go.Proofs.Ytcjnmconehfbgaa
open Go.RowKit
set_option linter.unusedVariables false
/-- out with the first k of x added from off on -/
def ad (out x : List Int) (off k : Nat) : List Int := (List.range out.length).map fun i => out.getD i 0 + if off ≤ i ∧ i < off + k then x.getD (i - off) 0 else 0
theorem ad_len (out x : List Int) (off k : Nat) : (ad out x off k).length = out.length := by simp [ad]
theorem ad_get (out x : List Int) (off k i : Nat) (h : i < out.length) : (ad out x off k)[i]'(by rw [ad_len]; exact h) = out[i] + if off ≤ i ∧ i < off + k then x.getD (i - off) 0 else 0 := by
  simp [ad, List.getD_eq_getElem?_getD, h]
theorem ad_zero (out x : List Int) (off : Nat) : ad out x off 0 = out := by
  refine List.ext_getElem (ad_len _ _ _ _) fun i h1 h2 => ?_
  rw [ad_get _ _ _ _ _ h2, if_neg (by omega)]
  omega
theorem ad_here (out x : List Int) (off k : Nat) (h : off + k < out.length) : (ad out x off k)[off + k]'(by rw [ad_len]; exact h) = out[off + k] := by
  rw [ad_get _ _ _ _ _ h, if_neg (by omega)]
  omega
theorem ad_step (out x : List Int) (off k : Nat) (h : off + k < out.length) (hk : k < x.length) : (ad out x off k).set (off + k) (out[off + k] + x[k]) = ad out x off (k + 1) := by
  refine List.ext_getElem (by simp [ad_len]) fun i h1 h2 => ?_
  have hi : i < out.length := by rw [ad_len] at h2; exact h2
  rw [List.getElem_set, ad_get _ _ _ _ _ hi]
  by_cases he : off + k = i
  · subst he
    rw [if_pos rfl, ad_get _ _ _ _ _ h, if_pos (by omega)]
    simp [List.getD_eq_getElem?_getD, hk]
  · rw [if_neg he, ad_get _ _ _ _ _ hi]
    by_cases hc : off ≤ i ∧ i < off + k
    · rw [if_pos hc, if_pos (by omega)]
    · rw [if_neg hc, if_neg (by omega)]
theorem ad_bd (out x : List Int) (off k : Nat) (u v : Int) (hu : ∀ y ∈ out, 0 ≤ y ∧ y ≤ u) (hv : ∀ y ∈ x, 0 ≤ y ∧ y ≤ v) (h0 : 0 ≤ u) (h1 : 0 ≤ v) : ∀ y ∈ ad out x off k, 0 ≤ y ∧ y ≤ u + v := by
  intro y hy
  unfold ad at hy
  obtain ⟨i, hi, rfl⟩ := List.mem_map.1 hy
  have hi := List.mem_range.1 hi
  have e1 : out.getD i 0 = out[i] := by simp [List.getD_eq_getElem?_getD, hi]
  have e2 := hu _ (List.getElem_mem hi)
  have e3 : 0 ≤ x.getD (i - off) 0 ∧ x.getD (i - off) 0 ≤ v := by
    by_cases hc : i - off < x.length
    · have e4 : x.getD (i - off) 0 = x[i - off] := by simp [List.getD_eq_getElem?_getD, hc]
      rw [e4]; exact hv _ (List.getElem_mem hc)
    · have e4 : x.getD (i - off) 0 = 0 := by simp [List.getD_eq_getElem?_getD, List.getElem?_eq_none (Nat.le_of_not_lt hc)]
      rw [e4]; omega
  rw [e1]
  split <;> omega
def gnext (a : Nat) (g : Nat → List Int) : Nat → List Int
  | 0 => [1]
  | b + 1 => ad (ad (List.replicate ((a + 1) * (b + 1) + 1) 0) (gnext a g b) 0 (gnext a g b).length) (g (b + 1)) (b + 1) (g (b + 1)).length
def gbox : Nat → Nat → List Int
  | 0 => fun _ => [1]
  | a + 1 => gnext a (gbox a)
theorem gbox_zero (a b : Nat) (h : a = 0 ∨ b = 0) : gbox a b = [1] := by
  cases a with
  | zero => rfl
  | succ a =>
    obtain rfl : b = 0 := by omega
    rfl
theorem gbox_next (a b : Nat) : gbox (a + 1) (b + 1) = ad (ad (List.replicate ((a + 1) * (b + 1) + 1) 0) (gbox (a + 1) b) 0 (gbox (a + 1) b).length) (gbox a (b + 1)) (b + 1) (gbox a (b + 1)).length := rfl
theorem gbox_len (a b : Nat) : (gbox a b).length = a * b + 1 := by
  cases a with
  | zero => simp [gbox]
  | succ a =>
    cases b with
    | zero => rfl
    | succ b => rw [gbox_next, ad_len, ad_len, List.length_replicate]
def gboxTab : Bool := (List.range 5).all fun a => (List.range 5).all fun b => (gbox a b).all fun x => decide (0 ≤ x) && decide (x ≤ 100)
theorem gboxTab_all : gboxTab = true := by decide +kernel
theorem gbox_bd {a b : Nat} (ha : a ≤ 4) (hb : b ≤ 4) : ∀ x ∈ gbox a b, 0 ≤ x ∧ x ≤ 100 := by
  intro x hx
  have h := gboxTab_all
  unfold gboxTab at h
  have h1 := List.all_eq_true.1 h a (by simp; omega)
  have h2 := List.all_eq_true.1 h1 b (by simp; omega)
  have h3 := List.all_eq_true.1 h2 x hx
  simpa using h3
end Go.Proofs.Ytcjnmconehfbgaa
namespace Go.Proofs.Ytcjnmconehfbgaa
open Go.RowKit
set_option linter.unusedVariables false
/-- the slots that an operation looks at: its operands', and its guard's -/
def usesG (ops : Array Oper) (o : Oper) : List Nat :=
  (o.op.operands.toList.filterMap fun x => match x with | .tmp t => some t | _ => none) ++ (match o.guard with | none => [] | some (j, _) => ((ops[j]?).bind (·.dst)).toList)
/-- of the operations ahead of the one numbered z each edge leads back, each one that fills a slot that one of them looks at is waited for; whatever is numbered z or above waits for all of them -/
def regOkG (md : Region.Mode) (ops : Array Oper) (z : Nat) : Bool :=
  decide (z ≤ ops.size) &&
  (List.range ops.size).all fun i => match ops[i]? with
    | none => false
    | some o => (match o.op with | .defer _ => false | .select _ _ => false | _ => true) &&
      (if i < z then (o.after.toList.all fun e => !Region.binds md e || decide (e.on < i)) &&
        ((usesG ops o).all fun t => (List.range z).all fun j => match (ops[j]?).bind (·.dst) with
            | some d => !(d == t) || o.after.toList.any fun e => Region.binds md e && e.on == j
            | none => true)
      else if i = z then true else o.after.toList.any fun e => Region.binds md e && decide (z ≤ e.on) && decide (e.on < i))
/-- each operation ahead of the one numbered z is waited for by a later one, none above z -/
def regUpG (md : Region.Mode) (ops : Array Oper) (z : Nat) : Bool :=
  z == ops.size || (List.range z).all fun j => (List.range (z + 1)).any fun i => decide (j < i) && match ops[i]? with
    | none => false
    | some o => o.after.toList.any fun e => Region.binds md e && e.on == j
section
variable {P : Program} {md : Region.Mode} {ops : Array Oper} {Q : Exit → Act → World → Prop} {z : Nat} {S : World → Prop} {az : Act}
/-- the state is as the one at the end but for what isn't listed yet -/
def AgreeG (ops : Array Oper) (z : Nat) (az : Act) (listed : Array Bool) (a : Act) : Prop :=
  a.defers = az.defers ∧ a.tmps.size = az.tmps.size ∧ ∀ t, (∀ j, j < z → listed.getD j true = false → (ops[j]?).bind (·.dst) ≠ some t) → a.tmps[t]? = az.tmps[t]?
theorem AgreeG.slot {listed : Array Bool} {a : Act} {i : Nat} {o : Oper} (hok : regOkG md ops z = true) (hi : i < z) (ho : ops[i]? = some o) (hA : AgreeG ops z az listed a)
    (hp : ∀ e ∈ o.after, Region.binds md e = true → listed.getD e.on false = true) : ∀ t ∈ usesG ops o, a.tmps[t]? = az.tmps[t]? := by
  intro t ht
  unfold regOkG at hok
  simp only [Bool.and_eq_true, decide_eq_true_eq, List.all_eq_true, List.mem_range] at hok
  have h1 := hok.2 i (by omega)
  rw [ho] at h1
  simp only [hi, if_true, Bool.and_eq_true, List.all_eq_true, Array.mem_toList_iff] at h1
  have h2 := h1.2.2 t ht
  exact hA.2.2 t (fun j hj hu hd => by
      simp only [List.mem_range] at h2
      have h4 := h2 j hj
      rw [hd] at h4
      simp only [BEq.rfl, Bool.not_true, Bool.false_or, List.any_eq_true, Bool.and_eq_true, beq_iff_eq, Array.mem_toList_iff] at h4
      obtain ⟨e, he, hb, hej⟩ := h4
      have h5 := hp e he hb
      rw [hej] at h5
      rcases Nat.lt_or_ge j listed.size with h' | h'
      · simp [h'] at h5 hu; rw [hu] at h5; cases h5
      · simp [Array.getElem?_eq_none h'] at h5)
theorem AgreeG.eval {listed : Array Bool} {a : Act} {i : Nat} {o : Oper} (hok : regOkG md ops z = true) (hi : i < z) (ho : ops[i]? = some o) (hA : AgreeG ops z az listed a)
    (hp : ∀ e ∈ o.after, Region.binds md e = true → listed.getD e.on false = true) : ∀ x ∈ o.op.operands, a.eval x = az.eval x := by
  intro x hx
  cases x with
  | tmp t =>
    simp only [Act.eval]
    have h3 := hA.slot hok hi ho hp t (List.mem_append_left _ (List.mem_filterMap.2 ⟨.tmp t, by simpa using hx, rfl⟩))
    simp only [Array.getD_eq_getD_getElem?, h3]
  | const v => rfl
  | global g => rfl
  | func f => rfl
theorem AgreeG.wanted {listed : Array Bool} {a : Act} {i : Nat} {o : Oper} (hok : regOkG md ops z = true) (hi : i < z) (ho : ops[i]? = some o) (hA : AgreeG ops z az listed a)
    (hp : ∀ e ∈ o.after, Region.binds md e = true → listed.getD e.on false = true) : Region.wanted o (yielded ops a.tmps) = Region.wanted o (yielded ops az.tmps) := by
  have hs := hA.slot hok hi ho hp
  unfold Region.wanted
  cases hg : o.guard with
  | none => rfl
  | some g =>
    obtain ⟨j, b⟩ := g
    simp only
    have e : yielded ops a.tmps j = yielded ops az.tmps j := by
      unfold yielded
      cases hd : (ops[j]?).bind (·.dst) with
      | none => rfl
      | some d =>
        have h3 := hs d (List.mem_append_right _ (by simp [hg, hd]))
        simp only [Option.bind_some, h3]
    rw [e]
theorem AgreeG.put {listed : Array Bool} {a : Act} {i : Nat} {o : Oper} {v : Value} (hls : i < listed.size) (ho : ops[i]? = some o) (hA : AgreeG ops z az listed a) (hv : az.put o.dst v = az) :
    AgreeG ops z az (listed.setIfInBounds i true) (a.put o.dst v) := by
  refine ⟨?_, ?_, ?_⟩
  · rw [← hA.1]; cases o.dst <;> rfl
  · rw [← hA.2.1]; cases o.dst <;> simp [Act.put]
  · intro t ht
    have old : (o.dst ≠ some t) → a.tmps[t]? = az.tmps[t]? := fun hne => hA.2.2 t fun j hj hu hd => by
      by_cases hji : j = i
      · subst hji; rw [ho] at hd; exact hne hd
      · exact ht j hj (by rw [getD_set_ne true (Ne.symm hji)]; exact hu) hd
    cases hd : o.dst with
    | none => simp only [Act.put]; exact old (by rw [hd]; simp)
    | some d =>
      rw [hd] at hv
      simp only [Act.put] at hv ⊢
      by_cases hdt : d = t
      · subst hdt
        have h2 : (az.tmps.setIfInBounds d v)[d]? = az.tmps[d]? := by
          have := congrArg Act.tmps hv
          simp only at this
          rw [this]
        rw [← h2]
        rw [Array.getElem?_setIfInBounds, Array.getElem?_setIfInBounds, hA.2.1]
        simp
      · rw [Array.getElem?_setIfInBounds_ne hdt]
        exact old (by rw [hd]; simp; exact hdt)
theorem wp_agree {a : Act} {w : World} {o : Oper} {K : Act → World → Prop} (hsel : ∀ cs b, o.op ≠ .select cs b) (he : ∀ x ∈ o.op.operands, a.eval x = az.eval x)
    (hK : ∀ v w', az.put o.dst v = az → S w' → K (a.put o.dst v) w')
    (h : o.wp P az w (fun a' w' => a' = az ∧ S w') (fun _ _ _ => False)) : o.wp P a w K Q := by
  have e1 := execOp_congr (ρ := a.eval) (ρ' := az.eval) o hsel he
  unfold Oper.wp at *
  rw [e1]
  have hh := h
  clear h
  generalize (execOp az.eval o).run P w = r at *
  cases r with
  | ok x w' =>
    cases x <;> simp only [Oper.upon] at hh ⊢
    case value u => exact hK u w' hh.1 hh.2
    case skip => exact hK _ w' hh.1 hh.2
    case defer d =>
      have h1 := congrArg (fun a : Act => a.defers.length) hh.1
      have h2 : ∀ (b : Act) (dst : Option Tmp) (v : Value), (b.put dst v).defers = b.defers := fun b dst v => by cases dst <;> rfl
      simp only [h2, List.length_cons] at h1
      omega
    case enter f args =>
      refine Calls.mono hh fun e w'' he => ?_
      cases e with
      | returned u => exact hK u w'' he.1 he.2
      | panicked c => exact he.elim
      | outgrown => obtain ⟨_, _, hf⟩ := he; exact hf.elim
    case row row args => exact Rows.mono hh fun u w'' he => hK u w'' he.1 he.2
  | halt x w' =>
    cases x <;> simp only [Oper.upon] at hh ⊢
/-- the listed ones stay listed with all that they wait for -/
def DownG (md : Region.Mode) (ops : Array Oper) (z : Nat) (listed : Array Bool) : Prop :=
  ∀ i o, i < z → ops[i]? = some o → listed.getD i true = true → ∀ e ∈ o.after, Region.binds md e = true → listed.getD e.on false = true
theorem wpAny_fixed_go (hok : regOkG md ops z = true) (hup : regUpG md ops z = true) (listedz : Array Bool)
    (hz : ∀ j, listedz[j]? = if j < z then some true else if j < ops.size then some false else none)
    (hstep : ∀ i o, i < z → ops[i]? = some o → ∀ w, S w → if Region.wanted o (yielded ops az.tmps) = true then o.wp P az w (fun a' w' => a' = az ∧ S w') (fun _ _ _ => False) else az.put o.dst undef = az)
    (hrest : ∀ w, S w → wpAny P md ops Q (ops.size - z) listedz az w) :
    ∀ (k : Nat) (listed : Array Bool) (a : Act) (w : World), listed.size = ops.size → ((List.range z).filter fun j => !listed.getD j true).length = k →
      (∀ i, z ≤ i → i < ops.size → listed.getD i true = false) → DownG md ops z listed → AgreeG ops z az listed a → S w → wpAny P md ops Q (ops.size - z + k) listed a w := by
  have hok' := hok
  unfold regOkG at hok'
  simp only [Bool.and_eq_true, decide_eq_true_eq, List.all_eq_true, List.mem_range] at hok'
  obtain ⟨hzs, hall⟩ := hok'
  have gd : ∀ (l : Array Bool) (j : Nat), l.getD j false = true → l.getD j true = true := fun l j h => by
    rcases Nat.lt_or_ge j l.size with h' | h'
    · simp [h'] at h ⊢; exact h
    · simp [Array.getElem?_eq_none h'] at h
  -- whoever comes up is ahead of z while one of these isn't listed
  have below : ∀ (listed : Array Bool) (i : Nat), (∀ i, z ≤ i → i < ops.size → listed.getD i true = false) → DownG md ops z listed → (∃ j, j < z ∧ listed.getD j true = false) → i ∈ Region.ready md ops listed → i < z := by
    intro listed i htop hdown ⟨j, hj, hjf⟩ hi
    obtain ⟨hu, o, ho, hp⟩ := mem_ready.1 hi
    have his : i < ops.size := (Array.getElem?_eq_some_iff.1 ho).1
    by_cases hiz : i < z
    · exact hiz
    exfalso
    have hup' := hup
    unfold regUpG at hup'
    rw [Bool.or_eq_true] at hup'
    replace hup' := hup'.resolve_left (by simp; omega)
    simp only [List.all_eq_true, List.mem_range, List.any_eq_true, Bool.and_eq_true, decide_eq_true_eq] at hup'
    by_cases hie : i = z
    · subst hie
      have key : ∀ m j, i - j = m → j < i → listed.getD j false = true := by
        intro m
        induction m using Nat.strongRecOn with
        | ind m ih =>
          intro j hm hj
          obtain ⟨i', hi', hji, hE⟩ := hup' j hj
          cases ho' : ops[i']? with
          | none => rw [ho'] at hE; cases hE
          | some o' =>
            rw [ho'] at hE
            simp only [List.any_eq_true, Bool.and_eq_true, beq_iff_eq, Array.mem_toList_iff] at hE
            obtain ⟨e, he, hb, hej⟩ := hE
            by_cases h0 : i' = i
            · subst h0
              rw [ho] at ho'; injection ho' with ho'; subst ho'
              rw [← hej]; exact hp e he hb
            · have h1 := ih (i - i') (by omega) i' rfl (by omega)
              rw [← hej]; exact hdown i' o' (by omega) ho' (gd _ _ h1) e he hb
      have := gd _ _ (key _ j rfl hj)
      rw [hjf] at this; cases this
    · have h1 := hall i his
      rw [ho] at h1
      simp only [hiz, if_false, hie, Bool.and_eq_true, List.any_eq_true, decide_eq_true_eq, Array.mem_toList_iff] at h1
      obtain ⟨-, e, he, ⟨hb, hze⟩, hei⟩ := h1
      have h2 := gd _ _ (hp e he hb)
      rw [htop e.on hze (by omega)] at h2
      cases h2
  intro k
  induction k with
  | zero =>
    intro listed a w hls hk htop hdown hA hS
    have hl : ∀ j, j < z → listed.getD j true = true := fun j hj => by
      have h1 := List.length_eq_zero_iff.1 hk
      have h2 := List.filter_eq_nil_iff.1 h1 j (List.mem_range.2 hj)
      simpa using h2
    have e1 : listed = listedz := by
      apply Array.ext_getElem?
      intro j
      rw [hz j]
      by_cases hj : j < z
      · have := hl j hj
        rw [if_pos hj]
        have h' : j < listed.size := by omega
        simp [h'] at this ⊢; exact this
      · rw [if_neg hj]
        by_cases hj2 : j < ops.size
        · have := htop j (by omega) hj2
          rw [if_pos hj2]
          have h' : j < listed.size := by omega
          simp [h'] at this ⊢; exact this
        · rw [if_neg hj2]; exact Array.getElem?_eq_none (by omega)
    have e2 : a = az := by
      obtain ⟨h1, h2, h3⟩ := hA
      cases a; cases az
      simp only at h1 h2 h3
      congr
      exact Array.ext_getElem? fun t => h3 t fun j hj hu => by rw [hl j hj] at hu; cases hu
    subst e1 e2
    exact hrest w hS
  | succ k ih =>
    intro listed a w hls hk htop hdown hA hS
    obtain ⟨j0, hj0⟩ : ∃ j, j ∈ (List.range z).filter fun j => !listed.getD j true := List.exists_mem_of_length_pos (by omega)
    have hex : ∃ j, j < z ∧ listed.getD j true = false := by
      rw [List.mem_filter, List.mem_range] at hj0
      exact ⟨j0, hj0.1, by simpa using hj0.2⟩
    -- somebody comes up: the first that isn't listed
    have hne : Region.ready md ops listed ≠ [] := by
      intro h0
      have key : ∀ j, j < z → listed.getD j true = true := by
        intro j
        induction j using Nat.strongRecOn with
        | ind j ihj =>
          intro hj
          by_cases hu : listed.getD j true = true
          · exact hu
          exfalso
          have ho : ∃ o, ops[j]? = some o := ⟨ops[j]'(by omega), Array.getElem?_eq_getElem (by omega)⟩
          obtain ⟨o, ho⟩ := ho
          have h1 := hall j (by omega)
          rw [ho] at h1
          simp only [hj, if_true, Bool.and_eq_true, List.all_eq_true, Array.mem_toList_iff] at h1
          have hm : j ∈ Region.ready md ops listed := mem_ready.2 ⟨by simpa using hu, o, ho, fun e he hb => by
            have h2 := h1.2.1 e he
            simp only [hb, Bool.not_true, Bool.false_or, decide_eq_true_eq] at h2
            have h3 := ihj e.on h2 (by omega)
            have h' : e.on < listed.size := by omega
            simp [h'] at h3 ⊢; exact h3⟩
          rw [h0] at hm
          cases hm
      obtain ⟨j, hj, hf⟩ := hex
      rw [key j hj] at hf; cases hf
    rw [show ops.size - z + (k + 1) = (ops.size - z + k) + 1 from by omega]
    refine wpAny_all rfl hne fun i hi => ?_
    have hiz := below listed i htop hdown hex hi
    obtain ⟨hu, o, ho, hp⟩ := mem_ready.1 hi
    have h1 := hall i (by omega)
    rw [ho] at h1
    simp only [hiz, if_true, Bool.and_eq_true] at h1
    have hsel : ∀ cs b, o.op ≠ .select cs b := fun c b e => by simp [e] at h1
    have hst := hstep i o hiz ho w hS
    unfold wpOp
    rw [ho]
    simp only [hA.wanted hok hiz ho hp]
    suffices hnext : ∀ v w', az.put o.dst v = az → S w' → wpAny P md ops Q (ops.size - z + k) (listed.setIfInBounds i true) (a.put o.dst v) w' by
      by_cases hw : Region.wanted o (yielded ops az.tmps) = true
      · rw [if_pos hw] at hst ⊢
        exact .inl (wp_agree hsel (hA.eval hok hiz ho hp) hnext hst)
      · rw [if_neg hw] at hst ⊢
        exact hnext _ _ hst hS
    intro v w' hv hS'
    refine ih _ _ _ (by simpa using hls) ?_ ?_ ?_ (hA.put (by omega) ho hv) hS'
    · have hsplit : ((List.range z).filter fun j => !listed.getD j true).length = ((List.range z).filter fun j => !(listed.setIfInBounds i true).getD j true).length + 1 := by
        have hcount : ∀ (L : List Nat), L.Nodup → i ∈ L → (L.filter fun j => !listed.getD j true).length = (L.filter fun j => !(listed.setIfInBounds i true).getD j true).length + 1 := by
          intro L
          induction L with
          | nil => intro _ h; cases h
          | cons x L ihL =>
            intro hnd hm
            have hnd' := List.nodup_cons.1 hnd
            by_cases hx : x = i
            · subst hx
              have e1 : (x :: L).filter (fun j => !listed.getD j true) = x :: L.filter (fun j => !listed.getD j true) := List.filter_cons_of_pos (by simp only [hu]; rfl)
              have e2 : (listed.setIfInBounds x true).getD x true = true := by
                have h' : x < listed.size := by omega
                simp [h']
              have e3 : (x :: L).filter (fun j => !(listed.setIfInBounds x true).getD j true) = L.filter (fun j => !(listed.setIfInBounds x true).getD j true) := List.filter_cons_of_neg (by simp only [e2]; simp)
              rw [e1, e3, List.length_cons]
              congr 2
              refine List.filter_congr fun j hj => ?_
              rw [getD_set_ne true (fun e => hnd'.1 (by rw [e]; exact hj))]
            · have hm' : i ∈ L := (List.mem_cons.1 hm).resolve_left (Ne.symm hx)
              have := ihL hnd'.2 hm'
              have e2 : (listed.setIfInBounds i true).getD x true = listed.getD x true := getD_set_ne true (Ne.symm hx)
              by_cases hxu : listed.getD x true = true
              · rw [List.filter_cons_of_neg (by simp only [hxu]; simp), List.filter_cons_of_neg (by simp only [e2, hxu]; simp)]; exact this
              · have hxf : listed.getD x true = false := by simpa using hxu
                rw [List.filter_cons_of_pos (by simp only [hxf]; rfl), List.filter_cons_of_pos (by simp only [e2, hxf]; rfl), List.length_cons, List.length_cons]
                omega
        exact hcount _ List.nodup_range (List.mem_range.2 hiz)
      omega
    · intro j hj hjs
      rw [getD_set_ne true (by omega)]; exact htop j hj hjs
    · intro j o' hj ho' hl e he hb
      by_cases hji : j = i
      · subst hji
        rw [ho] at ho'; injection ho' with ho'; subst ho'
        exact getD_set_true (hp e he hb)
      · rw [getD_set_ne true (Ne.symm hji)] at hl
        exact getD_set_true (hdown j o' hj ho' hl e he hb)
/-- the first z operations, each of which yields its value in whatever world of the kind S; then the rest -/
theorem wpAny_fixed (z : Nat) (S : World → Prop) (az : Act) (hok : regOkG md ops z = true) (hup : regUpG md ops z = true) (a : Act) (w : World) (hA : AgreeG ops z az (Array.replicate ops.size false) a) (hS : S w)
    (listedz : Array Bool) (hz : listedz = Array.replicate z true ++ Array.replicate (ops.size - z) false)
    (hstep : ∀ i o, i < z → ops[i]? = some o → ∀ w, S w → if Region.wanted o (yielded ops az.tmps) = true then o.wp P az w (fun a' w' => a' = az ∧ S w') (fun _ _ _ => False) else az.put o.dst undef = az)
    (hrest : ∀ w, S w → wpAny P md ops Q (ops.size - z) listedz az w) : wpAny P md ops Q ops.size (Array.replicate ops.size false) a w := by
  have hzs : z ≤ ops.size := by
    unfold regOkG at hok
    simp only [Bool.and_eq_true, decide_eq_true_eq] at hok
    exact hok.1
  have h := wpAny_fixed_go (P := P) (Q := Q) (S := S) (az := az) hok hup listedz (fun j => by
    rw [hz, Array.getElem?_append]
    simp only [Array.size_replicate, Array.getElem?_replicate]
    by_cases hj : j < z
    · simp [hj]
    · simp only [hj, if_false]
      by_cases h2 : j < ops.size
      · rw [if_pos (by omega), if_pos h2]
      · rw [if_neg (by omega), if_neg h2]) hstep hrest z (Array.replicate ops.size false) a w (by simp) (by
      rw [List.filter_eq_self.2]
      · simp
      · intro j hj
        have hj := List.mem_range.1 hj
        have h' : j < ops.size := by omega
        simp [h']) (fun i _ h2 => by simp [h2]) (fun i o hi ho hl => by
        have h' : i < ops.size := by omega
        simp [h'] at hl) hA hS
  rwa [show ops.size - z + z = ops.size from by omega] at h
/-- the values of the operations from the one numbered i on, put one after another -/
def putsOfG (ops : Array Oper) : Nat → List Value → Act → Act
  | _, [], a => a
  | i, v :: vs, a => putsOfG ops (i + 1) vs (a.put ((ops[i]?).bind (·.dst)) v)
theorem putsOfG_spec (ops : Array Oper) : ∀ (vs : List Value) (i : Nat) (a : Act), (putsOfG ops i vs a).defers = a.defers ∧ (putsOfG ops i vs a).tmps.size = a.tmps.size ∧ ∀ t, (∀ j, i ≤ j → j < i + vs.length → (ops[j]?).bind (·.dst) ≠ some t) → (putsOfG ops i vs a).tmps[t]? = a.tmps[t]? := by
  intro vs
  induction vs with
  | nil => intro i a; exact ⟨rfl, rfl, fun _ _ => rfl⟩
  | cons v vs ih =>
    intro i a
    obtain ⟨h1, h2, h3⟩ := ih (i + 1) (a.put ((ops[i]?).bind (·.dst)) v)
    unfold putsOfG
    refine ⟨?_, ?_, ?_⟩
    · rw [h1]; cases (ops[i]?).bind (·.dst) <;> rfl
    · rw [h2]; cases (ops[i]?).bind (·.dst) <;> simp [Act.put]
    · intro t ht
      rw [h3 t (fun j hj hj2 => ht j (by omega) (by simp; omega))]
      have h0 := ht i (Nat.le_refl _) (by simp)
      cases hd : (ops[i]?).bind (·.dst) with
      | none => rfl
      | some d =>
        rw [hd] at h0
        simp only [Act.put]
        exact Array.getElem?_setIfInBounds_ne (fun e => h0 (by rw [e]))
def StepsG (P : Program) (ops : Array Oper) (S : World → Prop) (az : Act) (L : List Nat) : Prop :=
  ∀ i ∈ L, ∀ o, ops[i]? = some o → ∀ w, S w → if Region.wanted o (yielded ops az.tmps) = true then o.wp P az w (fun a' w' => a' = az ∧ S w') (fun _ _ _ => False) else az.put o.dst undef = az
theorem StepsG.nil : StepsG P ops S az [] := fun _ h => by cases h
theorem StepsG.one {i : Nat} {L : List Nat} {o : Oper} (ho : ops[i]? = some o) (h : ∀ w, S w → if Region.wanted o (yielded ops az.tmps) = true then o.wp P az w (fun a' w' => a' = az ∧ S w') (fun _ _ _ => False) else az.put o.dst undef = az) (hs : StepsG P ops S az L) : StepsG P ops S az (i :: L) := by
  intro j hj o' ho'
  rcases List.mem_cons.1 hj with rfl | hj
  · rw [ho] at ho'; injection ho' with ho'; subst ho'; exact h
  · exact hs j hj o' ho'
theorem StepsG.cons {i : Nat} {L : List Nat} {o : Oper} (ho : ops[i]? = some o) (hw : Region.wanted o (yielded ops az.tmps) = true) (h : ∀ w, S w → o.wp P az w (fun a' w' => a' = az ∧ S w') (fun _ _ _ => False)) (hs : StepsG P ops S az L) : StepsG P ops S az (i :: L) :=
  .one ho (fun w hS => by rw [if_pos hw]; exact h w hS) hs
theorem StepsG.skip {i : Nat} {L : List Nat} {o : Oper} (ho : ops[i]? = some o) (hw : Region.wanted o (yielded ops az.tmps) = false) (h : az.put o.dst undef = az) (hs : StepsG P ops S az L) : StepsG P ops S az (i :: L) :=
  .one ho (fun w hS => by rw [if_neg (by rw [hw]; simp)]; exact h) hs
/-- the first operations, each of which yields its value in whatever world of the kind S (vs: the values); then the rest -/
theorem wpAny_vals (zl : List Nat) (vs : List Value) (S : World → Prop) (a az : Act) (w : World) (haz : putsOfG ops 0 vs a = az) (hok : regOkG md ops vs.length = true) (hup : regUpG md ops vs.length = true) (hS : S w)
    (listedz : Array Bool) (hz : listedz = Array.replicate vs.length true ++ Array.replicate (ops.size - vs.length) false)
    (hzl : List.range vs.length = zl) (hstep : StepsG P ops S az zl)
    (hrest : ∀ w, S w → wpAny P md ops Q (ops.size - vs.length) listedz az w) : wpAny P md ops Q ops.size (Array.replicate ops.size false) a w := by
  subst hzl
  obtain ⟨h1, h2, h3⟩ := putsOfG_spec ops vs 0 a
  rw [haz] at h1 h2 h3
  have hzs : vs.length ≤ ops.size := by
    unfold regOkG at hok
    simp only [Bool.and_eq_true, decide_eq_true_eq] at hok
    exact hok.1
  refine wpAny_fixed vs.length S az hok hup a w ⟨h1.symm, h2.symm, fun t ht => (h3 t fun j _ hj => ht j (by omega) ?_).symm⟩ hS listedz hz (fun i o hi => hstep i (List.mem_range.2 hi) o) hrest
  have h' : j < ops.size := by omega
  simp [h']
/-- a drawn region, all of whose operations yield their values (vs) in whatever world of the kind S -/
theorem wp_region_vals {id : Nat} {a : Act} {w : World} (zl : List Nat) (vs : List Value) (S : World → Prop) (az : Act) (hm : P.follows .mixedOrders = true) (hS : ∀ y, Dr w y → S y) (haz : putsOfG ops 0 vs a = az) (hlen : vs.length = ops.size)
    (hok : regOkG .any ops vs.length = true) (hup : regUpG .any ops vs.length = true) (hzl : List.range vs.length = zl) (hstep : StepsG P ops S az zl) (hrest : ∀ w', S w' → Q .normal az w') : (Code.region id ops true).wp P Q a w := by
  refine wp_region_any hm ?_
  refine wpAny_vals zl vs S a az _ haz hok hup (hS _ (Dr.n w 1)) _ rfl hzl hstep fun w' hw => ?_
  rw [hlen, Nat.sub_self]
  refine ⟨?_, hrest w' hw⟩
  unfold Region.ready
  rw [List.filter_eq_nil_iff]
  intro i hi
  have h := List.mem_range.1 hi
  simp [h]
/-- the same, the last ones by hand -/
theorem wp_region_vals_rest {id : Nat} {a : Act} {w : World} (zl : List Nat) (vs : List Value) (S : World → Prop) (az : Act) (hm : P.follows .mixedOrders = true) (hS : ∀ y, Dr w y → S y) (haz : putsOfG ops 0 vs a = az)
    (hok : regOkG .any ops vs.length = true) (hup : regUpG .any ops vs.length = true) (hzl : List.range vs.length = zl) (hstep : StepsG P ops S az zl) (hrest : ∀ w', S w' → wpAny P .any ops Q (ops.size - vs.length) (Array.replicate vs.length true ++ Array.replicate (ops.size - vs.length) false) az w') : (Code.region id ops true).wp P Q a w := by
  refine wp_region_any hm ?_
  exact wpAny_vals zl vs S a az _ haz hok hup (hS _ (Dr.n w 1)) _ rfl hzl hstep hrest
end
end Go.Proofs.Ytcjnmconehfbgaa
namespace Go.Proofs.Ytcjnmconehfbgaa
open Go.RowKit
set_option linter.unusedVariables false
section
variable {P : Program} {ops : Array Oper} {Q : Exit → Act → World → Prop}
/-- all but the last yield their values (vs) in whatever world of the kind S; the last one stores -/
theorem wp_region_store {id : Nat} {a : Act} {w : World} (zl : List Nat) (vs : List Value) (S : World → Prop) (az : Act) (hm : P.follows .mixedOrders = true) (hS : ∀ y, Dr w y → S y) (haz : putsOfG ops 0 vs a = az)
    (hok : regOkG .any ops vs.length = true) (hup : regUpG .any ops vs.length = true) (hzl : List.range vs.length = zl) (hsz : ops.size = vs.length + 1)
    (hr1 : Region.ready .any ops (Array.replicate vs.length true ++ Array.replicate 1 false) = [vs.length]) (hr2 : Region.ready .any ops ((Array.replicate vs.length true ++ Array.replicate 1 false).setIfInBounds vs.length true) = [])
    (o : Oper) (ho : ops[vs.length]? = some o) (hg : o.guard = none) (hd : o.dst = none) (ty : TypeId) (x y : Operand) (hop : o.op = .store ty x y) (p : Addr) (v : Value) (hx : az.eval x = .pointer (some p)) (hy : az.eval y = v)
    (hrun : ∀ w', S w' → (storeVar ty p v).run P w' = .ok () (w'.setCell p v)) (hstep : StepsG P ops S az zl) (hrest : ∀ w', S w' → Q .normal az (w'.setCell p v)) : (Code.region id ops true).wp P Q a w := by
  refine wp_region_vals_rest zl vs S az hm hS haz hok hup hzl hstep fun w' hw => ?_
  rw [hsz, show vs.length + 1 - vs.length = 0 + 1 from by omega]
  refine wpAny_ready hr1 (by simp) ?_
  refine AllReady.cons ho (fun K hK => ?_) AllReady.nil
  rw [if_pos (by simp [Region.wanted, hg])]
  simp only [Oper.wp, execOp, hop, hx, hy, Instr.storeAt, Instr.sureAddr, Sem.run_bind, Sem.run_pure, Result.andThen_ok, hrun w' hw, Oper.upon]
  refine hK _ _ (wpAny_done hr2 ?_ _)
  rw [hd]
  exact hrest w' hw
end
end Go.Proofs.Ytcjnmconehfbgaa
