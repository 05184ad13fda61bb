/-
  Words for lists of lists: readable (RdLL), the call's own (OwnLL). Walks of the model: piles: valid, summed, turned, in layers, even. Walks: corners of the model and of the program. A row loaded under a guard that holds. Walks: cells taken away and put, of the model and of the program. Walks of the model: two lists the same. Walks of the model: piles: summed, turned, in layers, even. Plain mathematics: how many rows and numbers the answers about piles have. Walks: ranks: the program's and the model's.
-/
import Derived.Test.YtnheolhgdinjgaaZe1
import Derived.Test.YtnheolhgdinjgaaZe2
import Derived.Test.YtnheolhgdinjgaaZe3
import Derived.Deep.QuietTactic
import Derived.BigQuiet
import Derived.Deep.RegionLaw
import Derived.Deep.RegionHeld3
import Derived.Deep.MidRow
import Derived.StillTailTactics
namespace Go.Proofs.Ytnheolhgdinjgaa
open Go.RowKit
set_option maxRecDepth 8000

/-- a value reads as a list of numbers -/
def Inn (w : World) (B : Nat) (v : Value) (L : List Int) : Prop := ∃ a c, v = .slice a L.length c ∧ Rd w B a (ints L) ∧ L.length ≤ c
def RdLL (w : World) (B : Nat) (a : Option Addr) (LL : List (List Int)) : Prop :=
  ∃ vs, Rd w B a vs ∧ vs.length = LL.length ∧ ∀ (k : Nat) v L, vs[k]? = some v → LL[k]? = some L → Inn w B v L

theorem Inn.below {w w' : World} {B : Nat} {v : Value} {L : List Int} (h : Inn w B v L) (hb : Below B w w') : Inn w' B v L := by
  obtain ⟨a, c, rfl, h1, h2⟩ := h
  exact ⟨a, c, rfl, h1.below hb, h2⟩
theorem Inn.more {w : World} {B B' : Nat} {v : Value} {L : List Int} (h : Inn w B v L) (hB : B ≤ B') : Inn w B' v L := by
  obtain ⟨a, c, rfl, h1, h2⟩ := h
  exact ⟨a, c, rfl, h1.more hB, h2⟩
theorem RdLL.below {w w' : World} {B : Nat} {a : Option Addr} {LL : List (List Int)} (h : RdLL w B a LL) (hb : Below B w w') : RdLL w' B a LL := by
  obtain ⟨vs, h1, h2, h3⟩ := h
  exact ⟨vs, h1.below hb, h2, fun k v L hv hL => (h3 k v L hv hL).below hb⟩
theorem RdLL.more {w : World} {B B' : Nat} {a : Option Addr} {LL : List (List Int)} (h : RdLL w B a LL) (hB : B ≤ B') : RdLL w B' a LL := by
  obtain ⟨vs, h1, h2, h3⟩ := h
  exact ⟨vs, h1.more hB, h2, fun k v L hv hL => (h3 k v L hv hL).more hB⟩
theorem RdLL.dr {w w' : World} {B : Nat} {a : Option Addr} {LL : List (List Int)} (h : RdLL w B a LL) (hb : Dr w w') : RdLL w' B a LL := h.below (hb.below B)
/-- the k-th list -/
theorem RdLL.at_ {w : World} {B : Nat} {a : Option Addr} {LL : List (List Int)} (h : RdLL w B a LL) {k : Nat} (hk : k < LL.length) :
    ∃ b o a' c', a = some ⟨b, o, none⟩ ∧ b < B ∧ w.cell? ⟨b, o + k, none⟩ = some (.slice a' LL[k].length c') ∧ Rd w B a' (ints LL[k]) ∧ LL[k].length ≤ c' := by
  obtain ⟨vs, h1, h2, h3⟩ := h
  have hkv : k < vs.length := by omega
  obtain ⟨b, o, rfl, hb, hc⟩ := h1 (by intro e; subst e; simp at hkv)
  obtain ⟨a', c', e, hr, hl⟩ := h3 k vs[k] LL[k] (List.getElem?_eq_getElem hkv) (List.getElem?_eq_getElem hk)
  exact ⟨b, o, a', c', rfl, hb, by rw [hc k vs[k] (List.getElem?_eq_getElem hkv), e], hr, hl⟩

/-- the outer block and each list's block are the call's own, and no two are one -/
structure OwnLL (w : World) (lo hi : Nat) (eo e : TypeId) (v : Value) (vs : List Value) (LL : List (List Int)) : Prop where
  outer : Own w lo hi eo v vs
  len : vs.length = LL.length
  inner : ∀ (k : Nat) u L, vs[k]? = some u → LL[k]? = some L → Own w lo hi e u (ints L)
  apartO : ∀ (k : Nat) u g, vs[k]? = some u → u.ownBlock = some g → v.ownBlock ≠ some g
  apart : ∀ (j k : Nat) u u' g, vs[j]? = some u → vs[k]? = some u' → u.ownBlock = some g → u'.ownBlock = some g → j = k

theorem OwnLL.below {w w' : World} {lo hi : Nat} {eo e : TypeId} {v : Value} {vs : List Value} {LL : List (List Int)} (h : OwnLL w lo hi eo e v vs LL) (hb : Below hi w w') : OwnLL w' lo hi eo e v vs LL :=
  ⟨h.outer.below hb, h.len, fun k u L hu hL => (h.inner k u L hu hL).below hb, h.apartO, h.apart⟩
theorem OwnLL.lower {w : World} {lo lo' hi : Nat} {eo e : TypeId} {v : Value} {vs : List Value} {LL : List (List Int)} (h : OwnLL w lo hi eo e v vs LL) (hl : lo' ≤ lo) : OwnLL w lo' hi eo e v vs LL :=
  ⟨h.outer.lower hl, h.len, fun k u L hu hL => (h.inner k u L hu hL).lower hl, h.apartO, h.apart⟩
theorem OwnLL.more {w : World} {lo hi : Nat} {eo e : TypeId} {v : Value} {vs : List Value} {LL : List (List Int)} (h : OwnLL w lo hi eo e v vs LL) : OwnLL w lo w.heap.size eo e v vs LL :=
  ⟨h.outer.more, h.len, fun k u L hu hL => (h.inner k u L hu hL).more, h.apartO, h.apart⟩
theorem OwnLL.le {w : World} {lo hi : Nat} {eo e : TypeId} {v : Value} {vs : List Value} {LL : List (List Int)} (h : OwnLL w lo hi eo e v vs LL) : hi ≤ w.heap.size := h.outer.le
theorem OwnLL.form {w : World} {lo hi : Nat} {eo e : TypeId} {v : Value} {vs : List Value} {LL : List (List Int)} (h : OwnLL w lo hi eo e v vs LL) : ∃ a c, v = .slice a LL.length c := by
  obtain ⟨a, c, hv⟩ := h.outer.form
  exact ⟨a, c, by rw [← h.len]; exact hv⟩
theorem OwnLL.empty (w : World) (eo e : TypeId) : OwnLL (w.alloc (.cells #[] eo)) w.heap.size (w.heap.size + 1) eo e (.slice (some ⟨w.heap.size, 0, none⟩) 0 0) [] [] :=
  ⟨Own.empty w eo, rfl, fun k u L hu => by simp at hu, fun k u g hu => by simp at hu, fun j k u u' g hu => by simp at hu⟩
theorem OwnLL.nil (w : World) (lo : Nat) (eo e : TypeId) : OwnLL w lo w.heap.size eo e (.slice none 0 0) [] [] :=
  ⟨Own.nil w lo eo, rfl, fun k u L hu => by simp at hu, fun k u g hu => by simp at hu, fun j k u u' g hu => by simp at hu⟩
theorem OwnLL.rd {w : World} {lo hi : Nat} {eo e : TypeId} {a : Option Addr} {n c : Nat} {vs : List Value} {LL : List (List Int)} (h : OwnLL w lo hi eo e (.slice a n c) vs LL) : RdLL w hi a LL := by
  refine ⟨vs, h.outer.rd, h.len, fun k u L hu hL => ?_⟩
  have hi' := h.inner k u L hu hL
  obtain ⟨a', c', rfl⟩ := hi'.form
  refine ⟨a', c', by rw [List.length_map], hi'.rd, ?_⟩
  rcases Nat.eq_zero_or_pos L.length with h0 | h0
  · omega
  · obtain ⟨g, c2, e2, hc⟩ := hi'.formN (by simpa using h0)
    injection e2 with _ _ e3
    rw [List.length_map] at hc
    omega
/-- one list more, its block beyond all that there was: the outer list anew or in its place -/
theorem OwnLL.push {w w' : World} {lo hi hi' : Nat} {eo e : TypeId} {v v' u : Value} {vs : List Value} {LL : List (List Int)} {L : List Int} (h : OwnLL w lo hi eo e v vs LL)
    (ho : Own w' lo hi' eo v' (vs ++ [u])) (hin : ∀ (k : Nat) u L, vs[k]? = some u → LL[k]? = some L → Own w' lo hi' e u (ints L)) (hu : Own w' lo hi' e u (ints L))
    (h1 : ∀ g, u.ownBlock = some g → v'.ownBlock ≠ some g) (h2 : ∀ (k : Nat) x g, vs[k]? = some x → x.ownBlock = some g → v'.ownBlock ≠ some g ∧ u.ownBlock ≠ some g) : OwnLL w' lo hi' eo e v' (vs ++ [u]) (LL ++ [L]) := by
  have hl := h.len
  refine ⟨ho, by simp [hl], fun k x M hx hM => ?_, fun k x g hx hg => ?_, fun j k x y g hx hy hgx hgy => ?_⟩
  · by_cases hk : k < vs.length
    · rw [List.getElem?_append_left hk] at hx
      rw [List.getElem?_append_left (by omega)] at hM
      exact hin k x M hx hM
    · rw [List.getElem?_append_right (by omega)] at hx
      rw [List.getElem?_append_right (by omega)] at hM
      have e0 : k - vs.length = 0 := by
        rcases Nat.eq_zero_or_pos (k - vs.length) with z | z
        · exact z
        · rw [List.getElem?_eq_none (by simp only [List.length_singleton]; omega)] at hx; cases hx
      rw [e0] at hx
      rw [← hl, e0] at hM
      cases hx; cases hM
      exact hu
  · by_cases hk : k < vs.length
    · rw [List.getElem?_append_left hk] at hx
      exact (h2 k x g hx hg).1
    · rw [List.getElem?_append_right (by omega)] at hx
      have e0 : k - vs.length = 0 := by
        rcases Nat.eq_zero_or_pos (k - vs.length) with z | z
        · exact z
        · rw [List.getElem?_eq_none (by simp only [List.length_singleton]; omega)] at hx; cases hx
      rw [e0] at hx
      cases hx
      exact h1 g hg
  · have last : ∀ i, ¬ i < vs.length → ∀ z, (vs ++ [u])[i]? = some z → i = vs.length ∧ z = u := fun i hi z hz => by
      rw [List.getElem?_append_right (by omega)] at hz
      have e0 : i - vs.length = 0 := by
        rcases Nat.eq_zero_or_pos (i - vs.length) with q | q
        · exact q
        · rw [List.getElem?_eq_none (by simp only [List.length_singleton]; omega)] at hz; cases hz
      rw [e0] at hz
      cases hz
      exact ⟨by omega, rfl⟩
    by_cases hj : j < vs.length
    · rw [List.getElem?_append_left hj] at hx
      by_cases hk : k < vs.length
      · rw [List.getElem?_append_left hk] at hy
        exact h.apart j k x y g hx hy hgx hgy
      · obtain ⟨_, rfl⟩ := last k hk y hy
        exact absurd hgy (h2 j x g hx hgx).2
    · obtain ⟨hj2, rfl⟩ := last j hj x hx
      by_cases hk : k < vs.length
      · rw [List.getElem?_append_left hk] at hy
        exact absurd hgx (h2 k y g hy hgy).2
      · obtain ⟨hk2, _⟩ := last k hk y hy
        omega
/-- one list more by append: its block was made behind the outer list's -/
theorem OwnLL.append {w w' : World} {lo hi lou hiu : Nat} {eo e : TypeId} {v v' u : Value} {vs : List Value} {LL : List (List Int)} {L : List Int} (h : OwnLL w lo hi eo e v vs LL)
    (hu : Own w lou hiu e u (ints L)) (hlou : hi ≤ lou) (hlo : lo ≤ lou) (ho : Own w' lo w'.heap.size eo v' (vs ++ [u])) (hg : w.grownBy w' v.ownBlock) (hat : v'.ownBlock = v.ownBlock ∨ v'.ownBlock = some w.heap.size) :
    OwnLL w' lo w'.heap.size eo e v' (vs ++ [u]) (LL ++ [L]) := by
  have hL : ∀ (k : Nat) x g, vs[k]? = some x → x.ownBlock = some g → g < hi := fun k x g hx hgx => by
    have hkv := (List.getElem?_eq_some_iff.1 hx).1
    have hkl : k < LL.length := by rw [← h.len]; exact hkv
    exact (h.inner k x LL[k] hx (List.getElem?_eq_getElem hkl)).lt g hgx
  refine h.push ho (fun k x M hx hM => ?_) ?_ (fun g hgu hv => ?_) (fun k x g hx hgx => ⟨fun hv => ?_, fun hgu => ?_⟩)
  · have hk := h.inner k x M hx hM
    refine (hk.grown hg ?_).more
    cases hb : x.ownBlock with
    | none => exact .inl rfl
    | some g => exact .inr fun e => h.apartO k x g hx hb e.symm
  · refine ((hu.grown hg ?_).more).lower hlo
    cases hb : u.ownBlock with
    | none => exact .inl rfl
    | some g => exact .inr fun e => by have h1 := hu.base g hb; have h2 := h.outer.lt g e.symm; omega
  · have h1 := hu.base g hgu
    rcases hat with e | e
    · have h2 := h.outer.lt g (e ▸ hv); omega
    · rw [e] at hv; cases hv; have h2 := hu.lt _ hgu; have h3 := hu.le; omega
  · rcases hat with e | e
    · exact h.apartO k x g hx hgx (e ▸ hv)
    · rw [e] at hv; cases hv; have h2 := hL k x _ hx hgx; have h3 := h.le; omega
  · have h1 := hu.base g hgu; have h2 := hL k x g hx hgx; omega
/-- the k-th list, its block and its place -/
theorem OwnLL.at_ {w : World} {lo hi : Nat} {eo e : TypeId} {a : Option Addr} {n c : Nat} {vs : List Value} {LL : List (List Int)} (h : OwnLL w lo hi eo e (.slice a n c) vs LL) {k : Nat} (hk : k < LL.length) :
    ∃ g a' c', a = some ⟨g, 0, none⟩ ∧ lo ≤ g ∧ g < hi ∧ w.cell? ⟨g, k, none⟩ = some (.slice a' LL[k].length c') ∧ Own w lo hi e (.slice a' LL[k].length c') (ints LL[k]) ∧ vs[k]? = some (.slice a' LL[k].length c') := by
  have hkv : k < vs.length := by rw [h.len]; exact hk
  obtain ⟨g, c1, e1, h1, h2, h3, _⟩ := h.outer.at_ hkv
  injection e1 with e1 _ _
  have hi' := h.inner k vs[k] LL[k] (List.getElem?_eq_getElem hkv) (List.getElem?_eq_getElem hk)
  obtain ⟨a', c', e2⟩ := hi'.form
  rw [List.length_map] at e2
  exact ⟨g, a', c', e1, h1, h2, by rw [h3, e2], e2 ▸ hi', by rw [List.getElem?_eq_getElem hkv, e2]⟩
/-- one list written anew in its place -/
theorem OwnLL.setIn {w w' : World} {lo hi : Nat} {eo e : TypeId} {v u : Value} {vs : List Value} {LL : List (List Int)} {L : List Int} (h : OwnLL w lo hi eo e v vs LL) {k : Nat} (hk : vs[k]? = some u)
    (hg : w.grownBy w' u.ownBlock) (hu : Own w' lo hi e u (ints L)) : OwnLL w' lo hi eo e v vs (LL.set k L) := by
  have hv : v.ownBlock = none ∨ v.ownBlock ≠ u.ownBlock := by
    cases hb : v.ownBlock with
    | none => exact .inl rfl
    | some g => exact .inr fun e => h.apartO k u g hk e.symm hb
  refine ⟨h.outer.grown hg hv, by rw [List.length_set]; exact h.len, fun j x M hx hM => ?_, h.apartO, h.apart⟩
  rw [List.getElem?_set] at hM
  by_cases hj : k = j
  · subst hj
    rw [if_pos rfl] at hM
    split at hM
    · cases hM
      obtain rfl : x = u := by rw [hk] at hx; cases hx; rfl
      exact hu
    · cases hM
  · rw [if_neg hj] at hM
    refine (h.inner j x M hx hM).grown hg ?_
    cases hb : x.ownBlock with
    | none => exact .inl rfl
    | some g => exact .inr fun e => hj (h.apart k j u x g hk hx e.symm hb)
/-- the marks of lists, one behind another -/
def marksLL (m : Int) : List (List Int) → List (List Int)
  | [] => []
  | L :: R => ((List.range L.length).map fun (j : Nat) => m + (j : Int)) :: marksLL (m + (L.length : Int)) R
def cntLL (LL : List (List Int)) : Nat := (LL.map List.length).sum
theorem cntLL_append (A : List (List Int)) (L : List Int) : cntLL (A ++ [L]) = cntLL A + L.length := by simp [cntLL]
theorem marksLL_append (m : Int) (A : List (List Int)) (L : List Int) : marksLL m (A ++ [L]) = marksLL m A ++ [(List.range L.length).map fun (j : Nat) => (m + (cntLL A : Int)) + (j : Int)] := by
  induction A generalizing m with
  | nil => simp [marksLL, cntLL]
  | cons x R ih =>
    have e : m + (x.length : Int) + (cntLL R : Int) = m + (cntLL (x :: R) : Int) := by simp [cntLL]; omega
    show _ :: marksLL (m + (x.length : Int)) (R ++ [L]) = _
    rw [ih, e]
    rfl
theorem marksLL_len (m : Int) (A : List (List Int)) : (marksLL m A).length = A.length := by
  induction A generalizing m with
  | nil => rfl
  | cons x R ih => simp [marksLL, ih]
theorem cntLL_take (LL : List (List Int)) (k : Nat) : cntLL (LL.take k) ≤ cntLL LL := by
  induction LL generalizing k with
  | nil => simp [cntLL]
  | cons x R ih =>
    cases k with
    | zero => simp [cntLL]
    | succ k => have := ih k; simp [cntLL] at this ⊢; omega
/-- one list more is marked -/
theorem marksLL_set (m : Int) {LL : List (List Int)} {k : Nat} (hk : k < LL.length) :
    (marksLL m (LL.take k) ++ LL.drop k).set k ((List.range LL[k].length).map fun (j : Nat) => (m + (cntLL (LL.take k) : Int)) + (j : Int)) = marksLL m (LL.take (k + 1)) ++ LL.drop (k + 1) := by
  have e1 : (marksLL m (LL.take k)).length = k := by rw [marksLL_len, List.length_take]; omega
  rw [List.drop_eq_getElem_cons hk, List.set_append_right _ _ (by omega), e1, Nat.sub_self, List.set_cons_zero, List.take_succ_eq_append_getElem hk, marksLL_append]
  simp
theorem marksLL_get (m : Int) (LL : List (List Int)) (k : Nat) (hk : k < LL.length) (hh : k < (marksLL m LL).length) :
    (marksLL m LL)[k] = (List.range LL[k].length).map fun (j : Nat) => (m + (cntLL (LL.take k) : Int)) + (j : Int) := by
  induction LL generalizing m k with
  | nil => simp at hk
  | cons x R ih =>
    cases k with
    | zero => simp [marksLL, cntLL]
    | succ k =>
      have h2 : k < (marksLL (m + (x.length : Int)) R).length := by rw [marksLL_len]; simpa using hk
      have := ih (m + (x.length : Int)) k (by simpa using hk) h2
      have e : m + (x.length : Int) + (cntLL (R.take k) : Int) = m + (cntLL ((x :: R).take (k + 1)) : Int) := by simp [cntLL]; omega
      rw [e] at this
      exact this
theorem OwnLL.lt {w : World} {lo hi : Nat} {eo e : TypeId} {v : Value} {vs : List Value} {LL : List (List Int)} (h : OwnLL w lo hi eo e v vs LL) {k : Nat} {x : Value} {g : Nat} (hx : vs[k]? = some x) (hg : x.ownBlock = some g) : lo ≤ g ∧ g < hi := by
  have hkv := (List.getElem?_eq_some_iff.1 hx).1
  have hkl : k < LL.length := by rw [← h.len]; exact hkv
  have hi' := h.inner k x LL[k] hx (List.getElem?_eq_getElem hkl)
  exact ⟨hi'.base g hg, hi'.lt g hg⟩
/-- many lists more by append: theirs were made behind the outer list's -/
theorem OwnLL.appendAll {w w' : World} {lo hi lox hix : Nat} {eo e : TypeId} {v v' vx : Value} {vs vsx : List Value} {LL LLx : List (List Int)} (h : OwnLL w lo hi eo e v vs LL)
    (hx : OwnLL w lox hix eo e vx vsx LLx) (hd : hi ≤ lox) (hlo : lo ≤ lox) (ho : Own w' lo w'.heap.size eo v' (vs ++ vsx)) (hg : w.grownBy w' v.ownBlock) (hat : v'.ownBlock = v.ownBlock ∨ v'.ownBlock = some w.heap.size) :
    OwnLL w' lo w'.heap.size eo e v' (vs ++ vsx) (LL ++ LLx) := by
  have hl := h.len
  have L1 : ∀ {k : Nat} {x : Value} {g : Nat}, vs[k]? = some x → x.ownBlock = some g → lo ≤ g ∧ g < hi := fun a b => h.lt a b
  have L2 : ∀ {k : Nat} {x : Value} {g : Nat}, vsx[k]? = some x → x.ownBlock = some g → lox ≤ g ∧ g < hix := fun a b => hx.lt a b
  have hle := h.le
  have hlx := hx.le
  refine ⟨ho, by simp [hl, hx.len], fun k x M hk hM => ?_, fun k x g hk hgx hv => ?_, fun j k x y g hj hk hgx hgy => ?_⟩
  · by_cases hkv : k < vs.length
    · rw [List.getElem?_append_left hkv] at hk
      rw [List.getElem?_append_left (by omega)] at hM
      refine ((h.inner k x M hk hM).grown hg ?_).more
      cases hb : x.ownBlock with
      | none => exact .inl rfl
      | some g => exact .inr fun e => h.apartO k x g hk hb e.symm
    · rw [List.getElem?_append_right (by omega)] at hk
      rw [List.getElem?_append_right (by omega), ← hl] at hM
      refine (((hx.inner _ x M hk hM).grown hg ?_).more).lower hlo
      cases hb : x.ownBlock with
      | none => exact .inl rfl
      | some g => exact .inr fun e => by have h1 := L2 hk hb; have h2 := h.outer.lt g e.symm; omega
  · by_cases hkv : k < vs.length
    · rw [List.getElem?_append_left hkv] at hk
      rcases hat with e | e
      · exact h.apartO k x g hk hgx (e ▸ hv)
      · rw [e] at hv; cases hv; have h2 := L1 hk hgx; omega
    · rw [List.getElem?_append_right (by omega)] at hk
      have h2 := L2 hk hgx
      rcases hat with e | e
      · have h1 := h.outer.lt g (e ▸ hv); omega
      · rw [e] at hv; cases hv; omega
  · by_cases hjv : j < vs.length
    · rw [List.getElem?_append_left hjv] at hj
      by_cases hkv : k < vs.length
      · rw [List.getElem?_append_left hkv] at hk
        exact h.apart j k x y g hj hk hgx hgy
      · rw [List.getElem?_append_right (by omega)] at hk
        have h1 := L1 hj hgx; have h2 := L2 hk hgy; omega
    · rw [List.getElem?_append_right (by omega)] at hj
      by_cases hkv : k < vs.length
      · rw [List.getElem?_append_left hkv] at hk
        have h1 := L2 hj hgx; have h2 := L1 hk hgy; omega
      · rw [List.getElem?_append_right (by omega)] at hk
        have := hx.apart _ _ x y g hj hk hgx hgy
        omega
theorem Own.single (w : World) (u : Value) (e : TypeId) : Own (w.alloc (.cells #[u] e)) w.heap.size (w.heap.size + 1) e (.slice (some ⟨w.heap.size, 0, none⟩) 1 1) [u] :=
  ⟨⟨rfl, .inr ⟨w.heap.size, 1, #[u], rfl, Nat.le_refl _, heap_alloc_new w _, Nat.le_refl _, by decide, rfl, rfl⟩⟩, fun g hg => by simp [Value.ownBlock] at hg; omega, by simp⟩
/-- a list of one list -/
theorem OwnLL.single {w : World} {lo hi : Nat} {eo e : TypeId} {u : Value} {L : List Int} (hu : Own w lo hi e u (ints L)) (hlo : lo ≤ w.heap.size) :
    OwnLL (w.alloc (.cells #[u] eo)) lo (w.heap.size + 1) eo e (.slice (some ⟨w.heap.size, 0, none⟩) 1 1) [u] [L] := by
  have hle := hu.le
  have one : ∀ (k : Nat) x, [u][k]? = some x → k = 0 ∧ x = u := fun k x hx => by
    match k, hx with
    | 0, hx => simp at hx; exact ⟨rfl, hx.symm⟩
  refine ⟨(Own.single w u eo).lower hlo, rfl, fun k x M hx hM => ?_, fun k x g hx hg hv => ?_, fun j k x y g hx hy _ _ => ?_⟩
  · obtain ⟨rfl, rfl⟩ := one k x hx
    simp at hM
    subst hM
    have h := hu.alloc (.cells #[x] eo)
    exact ⟨h.row, fun g hg => by have := h.lt g hg; omega, by simp⟩
  · obtain ⟨rfl, rfl⟩ := one k x hx
    have := hu.lt g hg
    simp [Value.ownBlock] at hv
    omega
  · rw [(one j x hx).1, (one k y hy).1]
end Go.Proofs.Ytnheolhgdinjgaa
namespace Go.Proofs.Ytnheolhgdinjgaa
open Go.RowKit NP
set_option maxRecDepth 100000
set_option linter.unusedVariables false
set_option linter.unusedSimpArgs false
theorem dr_cell {w w' : World} (h : Dr w w') (p : Addr) : w'.cell? p = w.cell? p := by obtain ⟨n, rfl⟩ := h; rfl
theorem vfits {L : List Int} (h : valid L = true) : sumFits L := valid_fits h
set_option maxHeartbeats 4000000 in
theorem validPile_any (a : Option Addr) (c B : Nat) (LL : List (List Int)) (w : World) (h : RdLL w B a LL) (hn : LL.length ≤ 1099511627776) (hil : ∀ L ∈ LL, L.length ≤ 4611686018427387904) :
    Calls Try.prog 36 #[.slice a LL.length c] w fun e w' => e = .returned (.bool (vpl LL)) ∧ Dr w w' := by
  have HIL := Lib.hid hil
  clear hil
  go_enter Try.func36, Try.ntmps36
  go_wp2_with fail
  go_loopw [3, 4] (fun vn vi wr => ∃ k : Nat, k ≤ LL.length ∧ vi = .int .i64 k ∧ vn = .int .i64 (sumLL (LL.take k)) ∧ Dr w wr ∧ Hid (∀ i, i < k → pgd LL i)) (fun _ vi _ => LL.length - (intOf vi).toNat)
  case atStart => exact ⟨0, Nat.zero_le _, rfl, rfl, Dr.refl w, Lib.hid fun i hi => by omega⟩
  case round =>
    obtain ⟨k, hk, rfl, rfl, hdr, HP⟩ := hrel
    obtain ⟨wo, rfl⟩ : ∃ wo : World, wo = wr := ⟨_, rfl⟩
    have hsb := sumLL_pbd hk HP.out
    by_cases hlt : k < LL.length
    · have hlt' : (k : Int) < (LL.length : Int) := by omega
      obtain ⟨b1, o1, a1, c1, rfl, -, hc1, hr1, -⟩ := (h.dr hdr).at_ hlt
      have hll := HIL.out _ (List.getElem_mem hlt)
      have HBR := Lib.hid (vpl_badrow hlt)
      have HSS := Lib.hid (sumLL_succ hlt)
      have HPS := Lib.hid (pgd_step hlt)
      have HBC : Hid (∀ j m, (hj : k = j + 1) → (LL[j]'(by omega)).getD m 0 < LL[k].getD m 0 → vpl LL = false) := Lib.hid (fun j m hj hh => by subst hj; exact vpl_badcell hlt hh)
      obtain ⟨L, hL⟩ : ∃ L, L = LL[k] := ⟨_, rfl⟩
      rw [← hL] at hc1 hr1 hll HBR HSS HPS HBC
      clear hL
      cases hv : valid L with
      | false =>
        have HF : Hid (vpl LL = false) := Lib.hid (HBR.out (.inl hv))
        have HV := Lib.hid hv
        clear hv
        go_wp2_with (go_at_call 56; refine (validParts_any a1 c1 _ L _ hr1 hll).mono ?_; rintro e wv ⟨rfl, n1, rfl⟩; rw [HV.out])
        go_ret
        exact ⟨ret_bool HF.out.symm, hdr.trans (Dr.n _ _)⟩
      | true =>
        have HV := Lib.hid hv
        have hbd := valid_bd hv
        by_cases hz : L.length = 0
        · have hLn : L = [] := List.eq_nil_of_length_eq_zero hz
          have HF : Hid (vpl LL = false) := Lib.hid (HBR.out (.inr hLn))
          have hz0 : (((L.length : Nat) : Int) == 0) = true := beq_iff_eq.2 (by omega)
          have hc1' := Lib.hid hc1
          clear hLn hv hz
          have hcd : ∀ n, (wo.drewN n).cell? ⟨b1, o1 + k, none⟩ = some (.slice a1 L.length c1) := fun n => hc1
          go_wp2_with (go_at_call 56; refine (validParts_any a1 c1 _ L _ hr1 hll).mono ?_; rintro e wv ⟨rfl, n1, rfl⟩; rw [HV.out])
          go_ret
          exact ⟨ret_bool HF.out.symm, hdr.trans (Dr.n _ _)⟩
        · have hz0 : (((L.length : Nat) : Int) == 0) = false := beq_eq_false_iff_ne.2 (by omega)
          have HNE : Hid (L ≠ []) := Lib.hid (fun e => hz (by rw [e]; rfl))
          have HVF := Lib.hid (vfits hv)
          have hs0 : 0 ≤ sumL L ∧ sumL L ≤ 16 := ⟨hbd.1, hbd.2.1⟩
          clear hv hz
          by_cases hk0 : k = 0
          · subst hk0
            rw [Nat.add_zero] at hc1
            have hs00 : sumLL [] = 0 := rfl
            have HPG : Hid (pgd LL 0) := Lib.hid (HPS.out HV.out HNE.out (fun j hj => by omega))
            go_wp2_with (first
              | (go_at_call 56; refine (validParts_any a1 c1 _ L _ hr1 hll).mono ?_; rintro e wv ⟨rfl, n1, rfl⟩; rw [HV.out])
              | (go_at_call 44; refine (sum_any a1 c1 _ L _ (hr1.dr (Dr.n wo n1)) HVF.out hll).mono ?_; rintro e wv ⟨rfl, rfl⟩))
            go_loopw [5] (fun i wr => i = .int .i64 0 ∧ wr = wo.drewN n1) (fun _ _ => 0)
            case atStart => exact ⟨rfl, rfl⟩
            case round =>
              obtain ⟨rfl, rfl⟩ := hrel
              go_wp2_with fail
              go_roundw
              case rel => exact ⟨1, by omega, by go_num, congrArg (Value.int .i64) (by rw [HSS.out]; show sumL L = 0 + sumL L; omega), hdr.trans (Dr.n _ _), Lib.hid fun i hi => by rw [show i = 0 by omega]; exact HPG.out⟩
              case measure => simp [intOf]; omega
          · obtain ⟨j, rfl⟩ : ∃ j, k = j + 1 := ⟨k - 1, by omega⟩
            have hjl : j < LL.length := by omega
            have hlt2 : (j : Int) + 1 < (LL.length : Int) := by omega
            go_wp2_with (first
              | (go_at_call 56; refine (validParts_any a1 c1 _ L _ hr1 hll).mono ?_; rintro e wv ⟨rfl, n1, rfl⟩; rw [HV.out])
              | (go_at_call 44; refine (sum_any a1 c1 _ L _ (hr1.dr (Dr.n wo n1)) HVF.out hll).mono ?_; rintro e wv ⟨rfl, rfl⟩))
            obtain ⟨b2, o2, a2, c2, e2, -, hc2, hr2, -⟩ := ((h.dr hdr).dr (Dr.n wo n1)).at_ hjl
            injection e2 with e2; injection e2 with e3 e4; subst e3 e4
            have hpp := (HP.out j (by omega)).1
            rw [gl_lt hjl] at hpp
            have hbp := valid_bd hpp
            have HBC2 := Lib.hid (fun m => HBC.out j m rfl)
            have HPG2 := Lib.hid (HPS.out HV.out HNE.out)
            have HPG3 : Hid ((∀ m, m < L.length → L.getD m 0 ≤ LL[j].getD m 0) → pgd LL (j + 1)) := Lib.hid (fun hh => HPG2.out (fun i hi => by
              obtain rfl : j = i := by omega
              exact ⟨hpp, hh⟩))
            have hc1d : (wo.drewN n1).cell? ⟨b1, o1 + (j + 1), none⟩ = some (.slice a1 L.length c1) := hc1
            have hr1d := hr1.dr (Dr.n wo n1)
            obtain ⟨P, hP⟩ : ∃ P, P = LL[j] := ⟨_, rfl⟩
            rw [← hP] at hc2 hr2 hbp HBC2 HPG3
            have HPN := Lib.hid (getD_nn (hP ▸ hpp))
            clear hP hpp HPG2 HBC HPS hk0 hc1 hr1
            have hj0 : (0 : Int) < (j : Int) + 1 := by omega
            have hwj : IntKind.i64.wrap (j : Int) = (j : Int) := IntWalk.i64_in _ (by omega)
            have hjl' : (j : Int) < (LL.length : Int) := by omega
            go_loopw [5] (fun i wr => ∃ m : Nat, m ≤ L.length ∧ i = .int .i64 m ∧ Dr (wo.drewN n1) wr ∧ Hid (∀ q, q < m → L.getD q 0 ≤ P.getD q 0)) (fun i _ => 20 - (intOf i).toNat)
            case atStart => exact ⟨0, Nat.zero_le _, rfl, Dr.refl _, Lib.hid fun q hq => by omega⟩
            case round =>
              obtain ⟨m, hm, rfl, hdq, HJ⟩ := hrel
              have hq1 : wr.cell? ⟨b1, o1 + (j + 1), none⟩ = some (.slice a1 L.length c1) := (dr_cell hdq _).trans hc1d
              have hq2 : wr.cell? ⟨b1, o1 + j, none⟩ = some (.slice a2 P.length c2) := (dr_cell hdq _).trans hc2
              by_cases hml : m < L.length
              · have hml' : (m : Int) < (L.length : Int) := by omega
                obtain ⟨b3, o3, rfl, _, hc3⟩ := (hr1d.dr hdq).at_ hml
                have HX : Hid (L.getD m 0 = L[m]) := Lib.hid (getD_lt hml)
                by_cases hmp : m < P.length
                · have hmp' : (m : Int) < (P.length : Int) := by omega
                  have hg1 : decide ((P.length : Int) ≤ (m : Int)) = false := decide_eq_false (by omega)
                  have hg1' : decide (P.length ≤ m) = false := decide_eq_false (by omega)
                  obtain ⟨b4, o4, rfl, _, hc4⟩ := (hr2.dr hdq).at_ hmp
                  have HY : Hid (P.getD m 0 = P[m]) := Lib.hid (getD_lt hmp)
                  generalize L[m] = y at *
                  generalize P[m] = x at *
                  by_cases hxy : x < y
                  · have d3 : decide (x < y) = true := decide_eq_true hxy
                    have HF : Hid (vpl LL = false) := Lib.hid (HBC2.out m (by rw [HX.out, HY.out]; exact hxy))
                    clear hxy
                    go_wp2_with fail
                    go_quiet (fail)
                    go_wp2_with fail
                    go_ret
                    exact ⟨ret_bool HF.out.symm, ((hdr.trans (Dr.n _ _)).trans hdq).drewN _⟩
                  · have d3 : decide (x < y) = false := decide_eq_false hxy
                    have hyx : y ≤ x := by omega
                    clear hxy
                    go_wp2_with fail
                    go_quiet (fail)
                    go_wp2_with fail
                    go_roundw
                    case rel => exact ⟨m + 1, by omega, by go_num, hdq.drewN _, Lib.hid fun q hq => by
                      rcases Nat.lt_or_ge q m with h | h
                      · exact HJ.out q h
                      · obtain rfl : q = m := by omega
                        rw [HX.out, HY.out]; exact hyx⟩
                    case measure => simp [intOf]; omega
                · have hg1 : decide ((P.length : Int) ≤ (m : Int)) = true := decide_eq_true (by omega)
                  have hg1' : decide (P.length ≤ m) = true := decide_eq_true (by omega)
                  have HF : Hid (vpl LL = false) := Lib.hid (HBC2.out m (by
                    have h1 := preS_of_valid HV.out m hml hml
                    rw [HX.out, getD_ge (by omega)]; omega))
                  go_wp2_with fail
                  go_quiet (fail)
                  go_wp2_with fail
                  go_ret
                  exact ⟨ret_bool HF.out.symm, ((hdr.trans (Dr.n _ _)).trans hdq).drewN _⟩
              · obtain rfl : m = L.length := by omega
                have HPG : Hid (pgd LL (j + 1)) := Lib.hid (HPG3.out (fun q hq => HJ.out q hq))
                go_wp2_with fail
                go_roundw
                case rel => exact ⟨j + 1 + 1, by omega, by go_num, by rw [HSS.out], (hdr.trans (Dr.n _ _)).trans hdq, Lib.hid fun i hi => by
                  rcases Nat.lt_or_ge i (j + 1) with h | h
                  · exact HP.out i h
                  · obtain rfl : i = j + 1 := by omega
                    exact HPG.out⟩
                case measure => simp [intOf]; omega
    · obtain rfl : k = LL.length := by omega
      rw [List.take_of_length_le (Nat.le_refl _)] at hsb
      have HTK : Hid (LL.take LL.length = LL) := Lib.hid (List.take_of_length_le (Nat.le_refl _))
      have HE := Lib.hid (vpl_atEnd HP.out)
      rw [HTK.out]
      by_cases h16 : LL.length ≤ 16
      · have h16' : (LL.length : Int) ≤ 16 := by omega
        go_wp2_with fail
        go_ret
        exact ⟨ret_bool HE.out.symm, hdr⟩
      · have h16' : decide (LL.length ≤ 16) = false := decide_eq_false h16
        have HF := Lib.hid (vpl_long (LL := LL) (by omega))
        go_wp2_with fail
        go_ret
        exact ⟨ret_bool HF.out.symm, hdr⟩
end Go.Proofs.Ytnheolhgdinjgaa
namespace Go.Proofs.Ytnheolhgdinjgaa
open Go.RowKit NP
set_option maxRecDepth 8000
set_option linter.unusedVariables false





end Go.Proofs.Ytnheolhgdinjgaa
namespace Go.Proofs.Ytnheolhgdinjgaa
open Go.RowKit
theorem wpList_load_row_g {P : Program} {ops : Array Oper} {rest : List Oper} {o : Oper} {a : Act} {w : World} {Q : Exit → Act → World → Prop} (hgd : Region.wanted o (yielded ops a.tmps) = true) (ty : TypeId) (x : Operand) (ho : o.op = .load ty x)
    (g : Nat) (hx : a.eval x = .pointer (some ⟨g, 0, none⟩)) (t : TypeId) (cs : Array Value) (fr : Nat × Nat) (d : TypeDesc) (hg : w.heap[g]? = some (.cells cs t fr))
    (hu : P.underlying ty = some d) (hd : (match d with | .struct _ | .array _ _ => true | _ => false) = true) (hi : (P.info? ty).map (·.size) = some cs.size)
    (h : wpList P ops Q rest (a.put o.dst (.agg cs)) w) : wpList P ops Q (o :: rest) a w :=
  wpList_step fun K hK => by
    rw [if_pos hgd]
    exact wp_load_row ty x ho g hx t cs fr d hg hu hd hi (hK _ _ h)
end Go.Proofs.Ytnheolhgdinjgaa
namespace Go.Proofs.Ytnheolhgdinjgaa
open Go.RowKit NP
set_option maxRecDepth 8000
set_option linter.unusedVariables false

theorem Own.take {w : World} {lo hi : Nat} {e : TypeId} {a : Option Addr} {n c : Nat} {vs : List Value} (h : Own w lo hi e (.slice a n c) vs) (k : Nat) (hk : k ≤ vs.length) : Own w lo hi e (.slice a k c) (vs.take k) := by
  refine ⟨?_, fun g hg => h.lt g (by cases a with | none => cases hg | some b => exact hg), h.le⟩
  have hlen : (vs.take k).length = k := by simp; omega
  rw [hlen]
  refine ⟨by rw [hlen]; omega, ?_⟩
  rcases h.row.2 with ⟨e1, e2⟩ | ⟨g, cap, cur, e1, hb, hg, hc, hm, hs, ht⟩
  · injection e1 with e3 e4 e5
    subst e3; subst e5
    have : k = 0 := by omega
    subst this
    exact .inl ⟨rfl, rfl⟩
  · injection e1 with e3 e4 e5
    subst e3; subst e5
    refine .inr ⟨g, c, cur, rfl, hb, hg, by omega, hm, hs, ?_⟩
    rw [← ht, List.take_take]
    congr 1
    omega

theorem hasInt_any (a : Option Addr) (c B : Nat) (M : List Int) (n : Int) (w : World) (h : Rd w B a (ints M)) (hl : M.length ≤ 4611686018427387904) :
    Calls Try.prog 79 #[.slice a M.length c, .int .i64 n] w fun e w' => e = .returned (.bool (hasI M n)) ∧ w = w' := by
  go_enter Try.func79, Try.ntmps79
  go_wp2
  go_loop [5] (fun i => ∃ k : Nat, k ≤ M.length ∧ i = .int .i64 k ∧ Hid (∀ j (hj : j < M.length), j < k → M[j] ≠ n)) (fun i => M.length - (intOf i).toNat)
  case atStart => exact ⟨0, Nat.zero_le _, rfl, Lib.hid fun j _ hj => by omega⟩
  case round =>
    obtain ⟨k, hk, rfl, HP⟩ := hrel
    by_cases hlt : k < M.length
    · obtain ⟨b, o, rfl, _, hc⟩ := h.at_ hlt
      by_cases hx : M[k] = n
      · have hxb : (M[k] == n) = true := beq_iff_eq.2 hx
        have HX := Lib.hid hx
        clear hx
        go_wp2
        go_ret
        exact ⟨ret_bool (by unfold hasI; rw [eq_comm, decide_eq_true_eq, ← HX.out]; exact List.getElem_mem hlt), rfl⟩
      · have hxb : (M[k] == n) = false := beq_eq_false_iff_ne.2 hx
        have HX := Lib.hid hx
        clear hx
        go_wp2
        go_round
        case rel => exact ⟨k + 1, by omega, by go_num, Lib.hid fun j hj hjk => by
          rcases Nat.lt_or_ge j k with h | h
          · exact HP.out j hj h
          · obtain rfl : j = k := by omega
            exact HX.out⟩
        case measure => simp [intOf]; omega
    · obtain rfl : k = M.length := by omega
      go_wp2
      go_ret
      exact ⟨ret_bool (by
        unfold hasI
        rw [eq_comm, decide_eq_false_iff_not]
        intro hm
        obtain ⟨j, hj, e⟩ := List.mem_iff_getElem.1 hm
        exact HP.out j hj hj e), rfl⟩


theorem rmvOk_no {L : List Int} (h : valid L = false) (i : Int) : rmvOk L i = false := by simp [rmvOk, h]
theorem rmvOk_yes {L : List Int} (h : valid L = true) (i : Int) : rmvOk L i = hasI (crn L) i := by
  unfold rmvOk crn
  rw [h, Bool.true_and, crnTo_fl, hasI_fl]
theorem rmv_no {L : List Int} {i : Int} (h : rmvOk L i = false) : rmv L i = [] := by simp [rmv, h]
theorem rmv_yes {L : List Int} {i : Int} (h : rmvOk L i = true) : ∃ k : Nat, i = k ∧ k < L.length ∧ isC L k = true ∧ valid L = true ∧ rmv L i = lessL L k := by
  have h2 := h
  unfold rmvOk at h
  simp only [Bool.and_eq_true, decide_eq_true_eq] at h
  obtain ⟨hv, ⟨h0, hlt⟩, hc⟩ := h
  obtain ⟨k, rfl⟩ := Int.eq_ofNat_of_zero_le h0
  refine ⟨k, rfl, by omega, hc, hv, ?_⟩
  unfold rmv
  rw [if_pos h2]
  rfl
theorem own_nil0 (w : World) (lo : Nat) (e : TypeId) : Own w lo w.heap.size e (.slice none ([] : List Int).length 0) (ints []) := Own.nil w lo e

theorem addOk_no {L : List Int} (h : valid L = false) (i : Int) : addOk L i = false := by simp [addOk, h]
theorem addC_no {L : List Int} {i : Int} (h : addOk L i = false) : addC L i = [] := by simp [addC, h]
theorem addC_yes {L : List Int} {i : Int} (h : addOk L i = true) : addC L i = addL L i.toNat := by simp [addC, h]
theorem addOk_at {L : List Int} (hv : valid L = true) {k : Nat} (hk : k ≤ L.length) : addOk L k = valid (addL L k) := by
  unfold addOk
  rw [hv, decide_eq_true (by omega : (0 : Int) ≤ (k : Int)), decide_eq_true (by omega : (k : Int) ≤ (L.length : Int))]
  rfl
theorem addOk_out {L : List Int} {i : Int} (h : ¬ (0 ≤ i ∧ i ≤ L.length)) : addOk L i = false := by
  unfold addOk
  rcases Int.lt_or_le i 0 with h0 | h0
  · rw [decide_eq_false (by omega : ¬ 0 ≤ i)]; simp
  · rw [decide_eq_false (by omega : ¬ i ≤ (L.length : Int))]; simp
theorem Blk.drs {w : World} {g : Nat} {t : TypeId} {cs : Array Value} (h : Blk w g t cs) (n : Nat) : Blk (w.drewN n) g t cs := h

end Go.Proofs.Ytnheolhgdinjgaa
namespace Go.Proofs.Ytnheolhgdinjgaa
open Go.RowKit NP
set_option maxRecDepth 8000
set_option linter.unusedVariables false
set_option linter.unusedSimpArgs false
set_option maxHeartbeats 1000000 in
theorem sameL_any (a b : Option Addr) (ca cb Ba Bb : Nat) (L M : List Int) (hl : L.length ≤ 1000) (w : World) (h : Rd w Ba a (ints L)) (hm : Rd w Bb b (ints M)) (hml : M.length ≤ 1000) :
    Calls Try.prog 52 #[.slice a L.length ca, .slice b M.length cb] w fun e w' => e = .returned (.bool (decide (L = M))) ∧ ∃ n, w' = w.drewN n := by
  by_cases hlen : L.length = M.length
  · have b0 : ((L.length : Int) != (M.length : Int)) = false := by simp [hlen]
    go_enter Try.func52, Try.ntmps52
    go_wp2_with fail
    clear b0
    go_loopw [5] (fun vi wr => ∃ k : Nat, k ≤ L.length ∧ vi = .int .i64 k ∧ Dr w wr ∧ Hid (∀ j, j < k → L.getD j 0 = M.getD j 0)) (fun vi _ => L.length - (intOf vi).toNat)
    case atStart => exact ⟨0, Nat.zero_le _, rfl, Dr.refl _, Lib.hid fun j hj => by omega⟩
    case round =>
      obtain ⟨k, hk, rfl, hdr, HP⟩ := hrel
      by_cases hlt : k < L.length
      · have hlt' : (k : Int) < (L.length : Int) := by omega
        have hltm : k < M.length := by omega
        have hlt'm : (k : Int) < (M.length : Int) := by omega
        obtain ⟨b1, o1, rfl, _, hc⟩ := (h.dr hdr).at_ hlt
        obtain ⟨b2, o2, rfl, _, hc'⟩ := (hm.dr hdr).at_ hltm
        have HG : Hid (L.getD k 0 = L[k]) := Lib.hid (getD_lt hlt)
        have HG' : Hid (M.getD k 0 = M[k]) := Lib.hid (getD_lt hltm)
        by_cases e1 : L[k] = M[k]
        · have HE : Hid (L.getD k 0 = M.getD k 0) := Lib.hid (by rw [HG.out, HG'.out, e1])
          have b1 : (L[k] != M[k]) = false := by simp [e1]
          clear e1 hlen
          generalize L[k] = x at hc HG b1
          generalize M[k] = y at hc' HG' b1
          go_wp2_with fail
          go_quiet (fail)
          go_wp2
          go_roundw
          case rel => exact ⟨k + 1, by omega, by go_num, hdr.drewN _, Lib.hid fun j hj => by
            rcases Nat.lt_or_ge j k with h1 | h1
            · exact HP.out j h1
            · obtain rfl : j = k := by omega
              exact HE.out⟩
          case measure => simp [intOf]; omega
        · have HF : Hid (decide (L = M) = false) := Lib.hid (decide_eq_false fun hc => e1 (by subst hc; rfl))
          have b1 : (L[k] != M[k]) = true := by simpa using e1
          clear e1 hlen
          generalize L[k] = x at hc HG b1
          generalize M[k] = y at hc' HG' b1
          go_wp2_with fail
          go_quiet (fail)
          go_wp2
          go_ret
          exact ⟨ret_bool HF.out.symm, hdr.trans (Dr.n _ _)⟩
      · obtain rfl : k = L.length := by omega
        have HF : Hid (decide (L = M) = true) := Lib.hid (decide_eq_true (List.ext_getElem hlen fun j h1 h2 => by
          have := HP.out j h1
          rwa [getD_lt h1, getD_lt h2] at this))
        clear hlen
        go_wp2
        go_ret
        exact ⟨ret_bool HF.out.symm, hdr⟩
  · have b0 : ((L.length : Int) != (M.length : Int)) = true := by simp; omega
    have HF : Hid (decide (L = M) = false) := Lib.hid (decide_eq_false fun hc => hlen (by rw [hc]))
    clear hlen
    go_enter Try.func52, Try.ntmps52
    go_wp2_with fail
    go_ret
    exact ⟨ret_bool HF.out.symm, 0, rfl⟩
end Go.Proofs.Ytnheolhgdinjgaa
namespace Go.Proofs.Ytnheolhgdinjgaa
open Go.RowKit NP
set_option maxRecDepth 100000
set_option linter.unusedVariables false
set_option linter.unusedSimpArgs false
def psF (LL : List (List Int)) : Int := if vpl LL then sumLL LL else -1
def tpF (LL : List (List Int)) : List (List Int) := if vpl LL then turnP LL else []
def lpF (LL : List (List Int)) : List (List Int) := if vpl LL then layP LL else []
theorem psF_yes {LL : List (List Int)} (h : vpl LL = true) : psF LL = sumLL LL := by unfold psF; rw [h]; rfl
theorem psF_no {LL : List (List Int)} (h : vpl LL = false) : psF LL = -1 := by unfold psF; rw [h]; rfl
theorem tpF_yes {LL : List (List Int)} (h : vpl LL = true) : tpF LL = turnP LL := by unfold tpF; rw [h]; rfl
theorem tpF_no {LL : List (List Int)} (h : vpl LL = false) : tpF LL = [] := by unfold tpF; rw [h]; rfl
theorem lpF_yes {LL : List (List Int)} (h : vpl LL = true) : lpF LL = layP LL := by unfold lpF; rw [h]; rfl
theorem lpF_no {LL : List (List Int)} (h : vpl LL = false) : lpF LL = [] := by unfold lpF; rw [h]; rfl
theorem sValidPile_any (a : Option Addr) (c B : Nat) (LL : List (List Int)) (w : World) (h : RdLL w B a LL) (hn : LL.length ≤ 1099511627776) (hil : ∀ L ∈ LL, L.length ≤ 4611686018427387904) :
    Calls Try.prog 14 #[.slice a LL.length c] w fun e w' => e = .returned (.bool (vpl LL)) ∧ Dr w w' := by
  have HIL := Lib.hid hil
  clear hil
  go_enter Try.func14, Try.ntmps14
  go_wp2_with (go_at_call 36; refine (validPile_any a c B LL _ h hn HIL.out).mono ?_; rintro e w1 ⟨rfl, hd1⟩)
  go_ret
  exact ⟨rfl, hd1⟩
set_option maxHeartbeats 1000000 in
theorem sPileSum_any (a : Option Addr) (c B : Nat) (LL : List (List Int)) (w : World) (h : RdLL w B a LL) (hn : LL.length ≤ 1099511627776) (hil : ∀ L ∈ LL, L.length ≤ 4611686018427387904) :
    Calls Try.prog 20 #[.slice a LL.length c] w fun e w' => e = .returned (.int .i64 (psF LL)) ∧ Dr w w' := by
  have HIL := Lib.hid hil
  clear hil
  have HPO := Lib.hid (fun w h => validPile_any a c B LL w h hn HIL.out)
  obtain ⟨v, hv⟩ : ∃ v, v = vpl LL := ⟨_, rfl⟩
  rw [← hv] at HPO
  cases v with
  | false =>
    have HF := Lib.hid (psF_no hv.symm)
    clear hv
    go_enter Try.func20, Try.ntmps20
    go_wp2_with (go_at_call 36; refine (HPO.out _ h).mono ?_; rintro e w1 ⟨rfl, hd1⟩)
    go_ret
    exact ⟨ret_i64 HF.out.symm, hd1⟩
  | true =>
    have HV := Lib.hid hv.symm
    have HY := Lib.hid (psF_yes hv.symm)
    have hlen := vpl_len hv.symm
    clear hv
    go_enter Try.func20, Try.ntmps20
    go_wp2_with (go_at_call 36; refine (HPO.out _ h).mono ?_; rintro e w1 ⟨rfl, hd1⟩)
    go_loop [3, 4] (fun vn vi => ∃ k : Nat, k ≤ LL.length ∧ vi = .int .i64 k ∧ vn = .int .i64 (sumLL (LL.take k))) (fun _ vi => LL.length - (intOf vi).toNat)
    case atStart => exact ⟨0, Nat.zero_le _, rfl, rfl⟩
    case round =>
      obtain ⟨k, hk, rfl, rfl⟩ := hrel
      have hsb := sumLL_pbd hk (fun i hi => (vpl_iff.1 HV.out).1 i (by omega))
      by_cases hlt : k < LL.length
      · have hlt' : (k : Int) < (LL.length : Int) := by omega
        obtain ⟨b1, o1, a1, c1, rfl, -, hc1, hr1, -⟩ := (h.dr hd1).at_ hlt
        have hll := HIL.out _ (List.getElem_mem hlt)
        have HSS := Lib.hid (sumLL_succ hlt)
        have hvk := vpl_each HV.out _ (List.getElem_mem hlt)
        have hbd := valid_bd hvk
        have HVF := Lib.hid (vfits hvk)
        obtain ⟨L, hL⟩ : ∃ L, L = LL[k] := ⟨_, rfl⟩
        rw [← hL] at hc1 hr1 hll HSS HVF hbd
        clear hL hvk
        go_wp2_with (go_at_call 44; refine (sum_any a1 c1 _ L _ hr1 HVF.out hll).mono ?_; rintro e wv ⟨rfl, rfl⟩)
        go_round
        case rel => exact ⟨k + 1, by omega, by go_num, by rw [HSS.out]⟩
        case measure => simp [intOf]; omega
      · obtain rfl : k = LL.length := by omega
        have HTK : Hid (LL.take LL.length = LL) := Lib.hid (List.take_of_length_le (Nat.le_refl _))
        rw [HTK.out]
        go_wp2_with fail
        go_ret
        exact ⟨ret_i64 HY.out.symm, hd1⟩
theorem T_intsM : (Try.prog.info? 31).map (fun i => (i.zero, i.size, i.bytes)) = some (some (.slice none 0 0), 1, 24) := by kernel_rfl
set_option maxHeartbeats 4000000 in
theorem sTurnPile_any (a : Option Addr) (c B : Nat) (LL : List (List Int)) (w : World) (h : RdLL w B a LL) (hB : B ≤ w.heap.size) (hn : LL.length ≤ 1099511627776) (hil : ∀ L ∈ LL, L.length ≤ 4611686018427387904) :
    Calls Try.prog 24 #[.slice a LL.length c] w fun e w' => ∃ a' c' us, e = .returned (.slice a' (tpF LL).length c') ∧ OwnLL w' w.heap.size w'.heap.size 31 3 (.slice a' (tpF LL).length c') us (tpF LL) ∧ Below w.heap.size w w' := by
  have HIL := Lib.hid hil
  clear hil
  have HPO := Lib.hid (fun w h => validPile_any a c B LL w h hn HIL.out)
  obtain ⟨i0, hi, hx0, hx1, hx2⟩ := T_int'
  obtain ⟨i1, hj, hy0, hy1, hy2⟩ := info_parts T_intsM
  obtain ⟨v, hv⟩ : ∃ v, v = vpl LL := ⟨_, rfl⟩
  rw [← hv] at HPO
  cases v with
  | false =>
    have HF := Lib.hid (tpF_no hv.symm)
    clear hv
    go_enter Try.func24, Try.ntmps24
    go_wp2_with (go_at_call 36; refine (HPO.out _ h).mono ?_; rintro e w1 ⟨rfl, hd1⟩)
    go_ret
    rw [HF.out]
    exact ⟨none, 0, [], rfl, OwnLL.nil _ _ _ _, hd1.below _⟩
  | true =>
    have HV := Lib.hid hv.symm
    have HY : Hid (tpF LL = turnS LL) := Lib.hid (by rw [tpF_yes hv.symm, turnS_eq hv.symm])
    have hlen := vpl_len hv.symm
    clear hv
    go_enter Try.func24, Try.ntmps24
    go_wp2_with (go_at_call 36; refine (HPO.out _ h).mono ?_; rintro e w1 ⟨rfl, hd1⟩)
    have hw1 := hd1.size
    have hA1 := hd1.below w.heap.size
    obtain ⟨n0, hn0⟩ : ∃ n, n = (LL.getD 0 []).length := ⟨_, rfl⟩
    have HTS : Hid (turnS LL = (List.range n0).map (colS LL)) := Lib.hid (by rw [hn0]; rfl)
    have hn16 : n0 ≤ 16 := by rw [hn0]; exact (valid_bd (vpl_valid HV.out 0)).2.2.2
    have HN0 := Lib.hid hn0
    clear hn0
    go_loopw [3, 4] (fun v i wr => ∃ k : Nat, k ≤ n0 ∧ i = .int .i64 k ∧ Below w.heap.size w wr ∧ ∃ vs, OwnLL wr w.heap.size wr.heap.size 31 3 v vs ((List.range k).map (colS LL))) (fun _ i _ => 20 - (intOf i).toNat)
    case atStart => exact ⟨0, Nat.zero_le _, rfl, hA1.alloc (by omega) _, [], (OwnLL.empty w1 31 3).more.lower (by omega)⟩
    case round =>
      obtain ⟨k, hk, rfl, hbel, vs, hLL⟩ := hrel
      obtain ⟨wo, rfl⟩ : ∃ wo : World, wo = wr := ⟨_, rfl⟩
      clear hA1 hw1
      have hvl := hLL.len
      rw [List.length_map, List.length_range] at hvl
      have hvs : vs.length ≤ 16 := by omega
      have hbs := hbel.size
      clear hvl
      by_cases hz : LL.length = 0
      · have hz' : decide (0 < LL.length) = false := decide_eq_false (by omega)
        have hn00 : n0 = 0 := by rw [HN0.out, gl_ge (by omega)]; rfl
        have hk0 : k = 0 := by omega
        subst hk0
        have HE : Hid (tpF LL = (List.range 0).map (colS LL)) := Lib.hid (by rw [HY.out, HTS.out, hn00])
        obtain ⟨a', c', rfl⟩ := hLL.form
        have HO := Lib.hid hLL
        clear hLL hz hn00
        go_wp2_with fail
        go_ret
        rw [HE.out]
        exact ⟨a', c', vs, rfl, HO.out, hbel⟩
      · have hz' : decide (0 < LL.length) = true := decide_eq_true (by omega)
        have hz0 : 0 < LL.length := by omega
        obtain ⟨b0, o0, a0, c0, rfl, -, hc0, -, -⟩ := ((h.more hB).below hbel).at_ hz0
        have hll0 : LL[0].length = n0 := by rw [HN0.out, gl_lt hz0]
        rw [hll0, Nat.add_zero] at hc0
        clear hll0 hz
        have hzi : (0 : Int) < (LL.length : Int) := by omega
        by_cases hkn : k < n0
        · have hkn' : (k : Int) < (n0 : Int) := by omega
          have HO := Lib.hid hLL
          clear hLL
          have HX := Lib.hid (turnS_take LL k)
          go_wp2_with fail
          go_loopw [5, 6] (fun v i wr => ∃ q : Nat, q ≤ LL.length ∧ i = .int .i64 q ∧ Below wo.heap.size wo wr ∧ Own wr wo.heap.size wr.heap.size 3 v (ints (colS (LL.take q) k))) (fun _ i _ => 20 - (intOf i).toNat)
          case atStart => exact ⟨0, Nat.zero_le _, rfl, (Below.refl _ _).alloc (Nat.le_refl _) _, by rw [colS_zero]; exact (Own.empty wo 3).more⟩
          case round =>
            obtain ⟨q, hq, rfl, hbq, hown⟩ := hrel
            by_cases hql : q < LL.length
            · have hql' : (q : Int) < (LL.length : Int) := by omega
              obtain ⟨b1, o1, a1, c1, e1, -, hc1, hr1, -⟩ := ((h.more hB).below (hbel.trans (hbq.mono hbs))).at_ hql
              injection e1 with e1; injection e1 with e2 e3; subst e2 e3
              have HCS := Lib.hid (colS_succ hql k)
              have hl16 := vpl_l16 HV.out _ (List.getElem_mem hql)
              obtain ⟨L, hL⟩ : ∃ L, L = LL[q] := ⟨_, rfl⟩
              rw [← hL] at hc1 hr1 HCS hl16
              clear hL
              obtain ⟨ws, hws⟩ : ∃ ws, ws = ints (colS (LL.take q) k) := ⟨_, rfl⟩
              have hlv : ws.length ≤ 16 := by rw [hws, List.length_map]; have := colS_len (LL.take q) k; rw [List.length_take] at this; omega
              rw [← hws] at hown
              have HVS := Lib.hid hws
              have HOW := Lib.hid hown
              clear hws hown
              have hqs := hbq.size
              by_cases hkL : k < L.length
              · have hkL' : (k : Int) < (L.length : Int) := by omega
                obtain ⟨b2, o2, rfl, -, hc2⟩ := hr1.at_ hkL
                have HG : Hid (L.getD k 0 = L[k]) := Lib.hid (getD_lt hkL)
                generalize L[k] = x at *
                go_wp2_with (at_builtin; refine wpList_append_o _ rfl (.tmp 38) (.tmp 46) 31 rfl wo.heap.size wr.heap.size 3 i0 (.int .i64 0) 8 Try.underlying31 hi hx0 hx1 hx2 rfl _ ws rfl (HOW.out.alloc _) (wr.heap.size + 1) (some ⟨wr.heap.size, 0, none⟩) 1 1 [.int .i64 x] rfl (Rd.one wr _ _) rfl (by simp; rfl) (by unfold maxLen; omega) (by omega) (by simp; omega) ?_; intro v' w2 ho1 hg1 hat1)
                go_roundw
                case rel =>
                  refine ⟨q + 1, by omega, by go_num, below_push hbq (Nat.le_refl _) hg1 HOW.out.base, ?_⟩
                  rw [HVS.out] at ho1
                  rw [HCS.out, if_pos hkL, HG.out, ints, List.map_append]
                  simpa [ints] using ho1
                case measure => simp [intOf] <;> omega
              · have hkL' : decide (k < L.length) = false := decide_eq_false hkL
                go_wp2_with fail
                go_roundw
                case rel => exact ⟨q + 1, by omega, by go_num, hbq, by rw [HCS.out, if_neg hkL, List.append_nil, ← HVS.out]; exact HOW.out⟩
                case measure => simp [intOf]; omega
            · obtain rfl : q = LL.length := by omega
              rw [List.take_of_length_le (Nat.le_refl _)] at hown
              obtain ⟨a5, c5, rfl⟩ := hown.form
              rw [List.length_map] at hown ⊢
              have hL2 := Lib.hid (HO.out.below hbq)
              have HU := Lib.hid hown
              have hqs := hbq.size
              clear hown
              obtain ⟨C, hC⟩ : ∃ C, C = colS LL k := ⟨_, rfl⟩
              rw [← hC] at HU HX ⊢
              clear hC
              go_wp2_with (at_builtin; refine wpList_append_o _ rfl (.tmp 48) (.tmp 50) 22 rfl w.heap.size wr.heap.size 31 i1 (.slice none 0 0) 24 Try.underlying22 hj hy0 hy1 hy2 rfl _ vs rfl (hL2.out.more.outer.alloc _) (wr.heap.size + 1) (some ⟨wr.heap.size, 0, none⟩) 1 1 [.slice a5 C.length c5] rfl (Rd.one wr _ _) rfl (by intro u hu; rw [List.mem_singleton.1 hu]; rfl) (by unfold maxLen; omega) (by omega) (by rw [World.size_alloc]; omega) ?_; intro v' w6 ho6 hg6 hat6)
              go_roundw
              case rel =>
                refine ⟨k + 1, by omega, by go_num, below_push (hbel.trans (hbq.mono hbs)) (Nat.le_refl _) hg6 HO.out.outer.base, vs ++ [.slice a5 C.length c5], ?_⟩
                rw [HX.out]
                have e1 := (hL2.out.below ((Below.refl _ _).alloc (by omega) (.cells #[.slice a5 C.length c5] 31)))
                exact e1.append (HU.out.alloc (.cells #[.slice a5 C.length c5] 31)) (Nat.le_refl _) hbs (by simpa using ho6) hg6 hat6
              case measure => simp [intOf] <;> omega
        · have hk0 : k = n0 := by omega
          subst hk0
          have hkn' : decide (k < k) = false := decide_eq_false (by omega)
          have HE : Hid (tpF LL = (List.range k).map (colS LL)) := Lib.hid (by rw [HY.out, HTS.out])
          obtain ⟨a', c', rfl⟩ := hLL.form
          have HO := Lib.hid hLL
          clear hLL hkn
          go_wp2_with fail
          go_ret
          rw [HE.out]
          exact ⟨a', c', vs, rfl, HO.out, hbel⟩
end Go.Proofs.Ytnheolhgdinjgaa
namespace Go.Proofs.Ytnheolhgdinjgaa
open Go.RowKit NP
theorem cnt_rows {LL : List (List Int)} (h : ∀ L ∈ LL, valid L = true) : (cntLL LL : Int) ≤ sumLL LL := by
  induction LL with
  | nil => simp [cntLL, sumLL, sumL]
  | cons L R ih =>
    have h1 := ih fun M hM => h M (by simp [hM])
    have h2 := (valid_bd (h L (by simp))).2.2.1
    have e1 : cntLL (L :: R) = L.length + cntLL R := by simp [cntLL]
    have e2 : sumLL (L :: R) = sumL L + sumLL R := by simp [sumLL, sumL]
    rw [e1, e2]
    omega
theorem vpl_cnt {LL : List (List Int)} (h : vpl LL = true) : cntLL LL ≤ 16 := by
  have h1 := cnt_rows (vpl_each h)
  have h2 := vpl_sum h
  omega
theorem pl_three {LL : List (List Int)} (h : vpl LL = true) : LL.length ≤ 16 ∧ cntLL LL ≤ 16 ∧ ∀ L ∈ LL, L.length ≤ 4611686018427387904 := ⟨vpl_len h, vpl_cnt h, fun L hL => by have := vpl_l16 h L hL; omega⟩
theorem tpF_three (LL : List (List Int)) : (tpF LL).length ≤ 16 ∧ cntLL (tpF LL) ≤ 16 ∧ ∀ L ∈ tpF LL, L.length ≤ 4611686018427387904 := by
  cases h : vpl LL with
  | false => rw [tpF_no h]; exact ⟨by simp, by simp [cntLL], by simp⟩
  | true => rw [tpF_yes h]; exact pl_three (vpl_turn h)
theorem lpF_three (LL : List (List Int)) : (lpF LL).length ≤ 16 ∧ cntLL (lpF LL) ≤ 16 ∧ ∀ L ∈ lpF LL, L.length ≤ 4611686018427387904 := by
  cases h : vpl LL with
  | false => rw [lpF_no h]; exact ⟨by simp, by simp [cntLL], by simp⟩
  | true => rw [lpF_yes h]; exact pl_three (vpl_lay h)
theorem tpF_l (LL : List (List Int)) : (tpF LL).length ≤ 16 := (tpF_three LL).1
theorem tpF_c (LL : List (List Int)) : cntLL (tpF LL) ≤ 16 := (tpF_three LL).2.1
theorem tpF_r (LL : List (List Int)) : ∀ L ∈ tpF LL, L.length ≤ 4611686018427387904 := (tpF_three LL).2.2
theorem lpF_l (LL : List (List Int)) : (lpF LL).length ≤ 16 := (lpF_three LL).1
theorem lpF_c (LL : List (List Int)) : cntLL (lpF LL) ≤ 16 := (lpF_three LL).2.1
theorem lpF_r (LL : List (List Int)) : ∀ L ∈ lpF LL, L.length ≤ 4611686018427387904 := (lpF_three LL).2.2
end Go.Proofs.Ytnheolhgdinjgaa
namespace Go.Proofs.Ytnheolhgdinjgaa
open Go.RowKit NP
set_option maxRecDepth 8000
set_option linter.unusedVariables false
set_option linter.unusedSimpArgs false
theorem Blk.range {w : World} {g : Nat} {t : TypeId} {vs : List Value} (h : Blk w g t vs.toArray) : w.rangeAt g 0 vs := fun j v hv => by
  rw [Nat.zero_add, h.cell j]; simpa using hv
theorem range_below {w w' : World} {b o : Nat} {cs : List Value} (h : w.rangeAt b o cs) (hb : Below w.heap.size w w') : w'.rangeAt b o cs := fun j v hv => by
  have := h j v hv
  exact (hb.cell (p := ⟨b, o + j, none⟩) (World.block_lt_of_cell? w _ this)).trans this
theorem keep_cr {w0 w w' : World} {g : Nat} {x : Value} {cs : List Value} (h : w.cell? ⟨g, 0, none⟩ = some x ∧ w.rangeAt g 0 cs ∧ Below w0.heap.size w0 w) (hb : Below w.heap.size w w') :
    w'.cell? ⟨g, 0, none⟩ = some x ∧ w'.rangeAt g 0 cs ∧ Below w0.heap.size w0 w' :=
  ⟨(hb.cell (p := ⟨g, 0, none⟩) (World.block_lt_of_cell? w _ h.1)).trans h.1, range_below h.2.1 hb, h.2.2.trans (hb.mono h.2.2.size)⟩
theorem cntD_le (D : List Int) : cntD D ≤ 16 := (ff_spec _ 16).1
theorem cntD_pad {M : List Int} (hM : valid M = true) : cntD (pad M) = M.length := by
  have hbd := valid_bd hM
  have hlen : M.length ≤ 16 := hbd.2.2.2
  unfold cntD
  refine ff_eq (fun j hj => ?_) hlen ?_
  · have h1 := preS_of_valid hM j hj hj
    rw [List.getD_eq_getElem?_getD, List.getElem?_eq_getElem (by rw [pad_len hlen]; omega), Option.getD_some, pad_get hlen hj]
    simp; omega
  · rcases Nat.lt_or_ge M.length 16 with h | h
    · right
      rw [List.getD_eq_getElem?_getD, List.getElem?_eq_getElem (by rw [pad_len hlen]; omega), Option.getD_some, pad_get0 hlen (Nat.le_refl _) h]
      simp
    · left; omega
theorem getD0 (L : List Int) : L.getD 0 0 = L.headD 0 := by cases L <;> rfl
theorem cntD_zeros : cntD (List.replicate 16 0) = 0 := by decide
theorem dg_bd (L : List Int) : ∀ k (h : k < (dg L).length), 0 ≤ (dg L)[k] ∧ (dg L)[k] ≤ 16 := by
  cases hv : valid L with
  | true => rw [dg_yes hv]; exact pad_nonneg hv
  | false => rw [dg_no hv]; intro k h; rw [List.getElem_replicate]; omega
theorem rnk_dg (L : List Int) : (dg L).getD 0 0 - cntD (dg L) = rnk L := by
  cases hv : valid L with
  | true => rw [dg_yes hv, cntD_pad hv, pad_getD (valid_bd hv).2.2.2, getD0, rnk_yes hv]
  | false => rw [dg_no hv, cntD_zeros, rnk_no hv]; rfl
theorem info_diag (D : List Int) (hD : D.length = 16) : (Try.prog.info? 36).map (·.size) = some (ints D).length := by rw [List.length_map, hD]; exact T_info35




end Go.Proofs.Ytnheolhgdinjgaa
