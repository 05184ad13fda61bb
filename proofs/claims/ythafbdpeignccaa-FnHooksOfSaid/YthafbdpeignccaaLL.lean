/-
  Words for lists of lists: readable (RdLL), the call's own (OwnLL).
-/
import Derived.Test.YthafbdpeignccaaBase
namespace Go.Proofs.Ythafbdpeignccaa
open Go.RowKit
set_option maxRecDepth 8000

/-- a value reads as a list of numbers -/
def Inn (w : World) (B : Nat) (v : Value) (L : List Int) : Prop := ∃ a c, v = .slice a L.length c ∧ Rd w B a (ints L) ∧ L.length ≤ c
def RdLL (w : World) (B : Nat) (a : Option Addr) (LL : List (List Int)) : Prop :=
  ∃ vs, Rd w B a vs ∧ vs.length = LL.length ∧ ∀ (k : Nat) v L, vs[k]? = some v → LL[k]? = some L → Inn w B v L

theorem Inn.below {w w' : World} {B : Nat} {v : Value} {L : List Int} (h : Inn w B v L) (hb : Below B w w') : Inn w' B v L := by
  obtain ⟨a, c, rfl, h1, h2⟩ := h
  exact ⟨a, c, rfl, h1.below hb, h2⟩
theorem Inn.more {w : World} {B B' : Nat} {v : Value} {L : List Int} (h : Inn w B v L) (hB : B ≤ B') : Inn w B' v L := by
  obtain ⟨a, c, rfl, h1, h2⟩ := h
  exact ⟨a, c, rfl, h1.more hB, h2⟩
theorem RdLL.below {w w' : World} {B : Nat} {a : Option Addr} {LL : List (List Int)} (h : RdLL w B a LL) (hb : Below B w w') : RdLL w' B a LL := by
  obtain ⟨vs, h1, h2, h3⟩ := h
  exact ⟨vs, h1.below hb, h2, fun k v L hv hL => (h3 k v L hv hL).below hb⟩
theorem RdLL.more {w : World} {B B' : Nat} {a : Option Addr} {LL : List (List Int)} (h : RdLL w B a LL) (hB : B ≤ B') : RdLL w B' a LL := by
  obtain ⟨vs, h1, h2, h3⟩ := h
  exact ⟨vs, h1.more hB, h2, fun k v L hv hL => (h3 k v L hv hL).more hB⟩
theorem RdLL.dr {w w' : World} {B : Nat} {a : Option Addr} {LL : List (List Int)} (h : RdLL w B a LL) (hb : Dr w w') : RdLL w' B a LL := h.below (hb.below B)
/-- the k-th list -/
theorem RdLL.at_ {w : World} {B : Nat} {a : Option Addr} {LL : List (List Int)} (h : RdLL w B a LL) {k : Nat} (hk : k < LL.length) :
    ∃ b o a' c', a = some ⟨b, o, none⟩ ∧ b < B ∧ w.cell? ⟨b, o + k, none⟩ = some (.slice a' LL[k].length c') ∧ Rd w B a' (ints LL[k]) ∧ LL[k].length ≤ c' := by
  obtain ⟨vs, h1, h2, h3⟩ := h
  have hkv : k < vs.length := by omega
  obtain ⟨b, o, rfl, hb, hc⟩ := h1 (by intro e; subst e; simp at hkv)
  obtain ⟨a', c', e, hr, hl⟩ := h3 k vs[k] LL[k] (List.getElem?_eq_getElem hkv) (List.getElem?_eq_getElem hk)
  exact ⟨b, o, a', c', rfl, hb, by rw [hc k vs[k] (List.getElem?_eq_getElem hkv), e], hr, hl⟩

/-- the outer block and each list's block are the call's own, and no two are one -/
structure OwnLL (w : World) (lo hi : Nat) (eo e : TypeId) (v : Value) (vs : List Value) (LL : List (List Int)) : Prop where
  outer : Own w lo hi eo v vs
  len : vs.length = LL.length
  inner : ∀ (k : Nat) u L, vs[k]? = some u → LL[k]? = some L → Own w lo hi e u (ints L)
  apartO : ∀ (k : Nat) u g, vs[k]? = some u → u.ownBlock = some g → v.ownBlock ≠ some g
  apart : ∀ (j k : Nat) u u' g, vs[j]? = some u → vs[k]? = some u' → u.ownBlock = some g → u'.ownBlock = some g → j = k

theorem OwnLL.below {w w' : World} {lo hi : Nat} {eo e : TypeId} {v : Value} {vs : List Value} {LL : List (List Int)} (h : OwnLL w lo hi eo e v vs LL) (hb : Below hi w w') : OwnLL w' lo hi eo e v vs LL :=
  ⟨h.outer.below hb, h.len, fun k u L hu hL => (h.inner k u L hu hL).below hb, h.apartO, h.apart⟩
theorem OwnLL.lower {w : World} {lo lo' hi : Nat} {eo e : TypeId} {v : Value} {vs : List Value} {LL : List (List Int)} (h : OwnLL w lo hi eo e v vs LL) (hl : lo' ≤ lo) : OwnLL w lo' hi eo e v vs LL :=
  ⟨h.outer.lower hl, h.len, fun k u L hu hL => (h.inner k u L hu hL).lower hl, h.apartO, h.apart⟩
theorem OwnLL.more {w : World} {lo hi : Nat} {eo e : TypeId} {v : Value} {vs : List Value} {LL : List (List Int)} (h : OwnLL w lo hi eo e v vs LL) : OwnLL w lo w.heap.size eo e v vs LL :=
  ⟨h.outer.more, h.len, fun k u L hu hL => (h.inner k u L hu hL).more, h.apartO, h.apart⟩
theorem OwnLL.le {w : World} {lo hi : Nat} {eo e : TypeId} {v : Value} {vs : List Value} {LL : List (List Int)} (h : OwnLL w lo hi eo e v vs LL) : hi ≤ w.heap.size := h.outer.le
theorem OwnLL.form {w : World} {lo hi : Nat} {eo e : TypeId} {v : Value} {vs : List Value} {LL : List (List Int)} (h : OwnLL w lo hi eo e v vs LL) : ∃ a c, v = .slice a LL.length c := by
  obtain ⟨a, c, hv⟩ := h.outer.form
  exact ⟨a, c, by rw [← h.len]; exact hv⟩
theorem OwnLL.empty (w : World) (eo e : TypeId) : OwnLL (w.alloc (.cells #[] eo)) w.heap.size (w.heap.size + 1) eo e (.slice (some ⟨w.heap.size, 0, none⟩) 0 0) [] [] :=
  ⟨Own.empty w eo, rfl, fun k u L hu => by simp at hu, fun k u g hu => by simp at hu, fun j k u u' g hu => by simp at hu⟩
theorem OwnLL.nil (w : World) (lo : Nat) (eo e : TypeId) : OwnLL w lo w.heap.size eo e (.slice none 0 0) [] [] :=
  ⟨Own.nil w lo eo, rfl, fun k u L hu => by simp at hu, fun k u g hu => by simp at hu, fun j k u u' g hu => by simp at hu⟩
theorem OwnLL.rd {w : World} {lo hi : Nat} {eo e : TypeId} {a : Option Addr} {n c : Nat} {vs : List Value} {LL : List (List Int)} (h : OwnLL w lo hi eo e (.slice a n c) vs LL) : RdLL w hi a LL := by
  refine ⟨vs, h.outer.rd, h.len, fun k u L hu hL => ?_⟩
  have hi' := h.inner k u L hu hL
  obtain ⟨a', c', rfl⟩ := hi'.form
  refine ⟨a', c', by rw [List.length_map], hi'.rd, ?_⟩
  rcases Nat.eq_zero_or_pos L.length with h0 | h0
  · omega
  · obtain ⟨g, c2, e2, hc⟩ := hi'.formN (by simpa using h0)
    injection e2 with _ _ e3
    rw [List.length_map] at hc
    omega
/-- one list more, its block beyond all that there was: the outer list anew or in its place -/
theorem OwnLL.push {w w' : World} {lo hi hi' : Nat} {eo e : TypeId} {v v' u : Value} {vs : List Value} {LL : List (List Int)} {L : List Int} (h : OwnLL w lo hi eo e v vs LL)
    (ho : Own w' lo hi' eo v' (vs ++ [u])) (hin : ∀ (k : Nat) u L, vs[k]? = some u → LL[k]? = some L → Own w' lo hi' e u (ints L)) (hu : Own w' lo hi' e u (ints L))
    (h1 : ∀ g, u.ownBlock = some g → v'.ownBlock ≠ some g) (h2 : ∀ (k : Nat) x g, vs[k]? = some x → x.ownBlock = some g → v'.ownBlock ≠ some g ∧ u.ownBlock ≠ some g) : OwnLL w' lo hi' eo e v' (vs ++ [u]) (LL ++ [L]) := by
  have hl := h.len
  refine ⟨ho, by simp [hl], fun k x M hx hM => ?_, fun k x g hx hg => ?_, fun j k x y g hx hy hgx hgy => ?_⟩
  · by_cases hk : k < vs.length
    · rw [List.getElem?_append_left hk] at hx
      rw [List.getElem?_append_left (by omega)] at hM
      exact hin k x M hx hM
    · rw [List.getElem?_append_right (by omega)] at hx
      rw [List.getElem?_append_right (by omega)] at hM
      have e0 : k - vs.length = 0 := by
        rcases Nat.eq_zero_or_pos (k - vs.length) with z | z
        · exact z
        · rw [List.getElem?_eq_none (by simp only [List.length_singleton]; omega)] at hx; cases hx
      rw [e0] at hx
      rw [← hl, e0] at hM
      cases hx; cases hM
      exact hu
  · by_cases hk : k < vs.length
    · rw [List.getElem?_append_left hk] at hx
      exact (h2 k x g hx hg).1
    · rw [List.getElem?_append_right (by omega)] at hx
      have e0 : k - vs.length = 0 := by
        rcases Nat.eq_zero_or_pos (k - vs.length) with z | z
        · exact z
        · rw [List.getElem?_eq_none (by simp only [List.length_singleton]; omega)] at hx; cases hx
      rw [e0] at hx
      cases hx
      exact h1 g hg
  · have last : ∀ i, ¬ i < vs.length → ∀ z, (vs ++ [u])[i]? = some z → i = vs.length ∧ z = u := fun i hi z hz => by
      rw [List.getElem?_append_right (by omega)] at hz
      have e0 : i - vs.length = 0 := by
        rcases Nat.eq_zero_or_pos (i - vs.length) with q | q
        · exact q
        · rw [List.getElem?_eq_none (by simp only [List.length_singleton]; omega)] at hz; cases hz
      rw [e0] at hz
      cases hz
      exact ⟨by omega, rfl⟩
    by_cases hj : j < vs.length
    · rw [List.getElem?_append_left hj] at hx
      by_cases hk : k < vs.length
      · rw [List.getElem?_append_left hk] at hy
        exact h.apart j k x y g hx hy hgx hgy
      · obtain ⟨_, rfl⟩ := last k hk y hy
        exact absurd hgy (h2 j x g hx hgx).2
    · obtain ⟨hj2, rfl⟩ := last j hj x hx
      by_cases hk : k < vs.length
      · rw [List.getElem?_append_left hk] at hy
        exact absurd hgx (h2 k y g hy hgy).2
      · obtain ⟨hk2, _⟩ := last k hk y hy
        omega
/-- one list more by append: its block was made behind the outer list's -/
theorem OwnLL.append {w w' : World} {lo hi lou hiu : Nat} {eo e : TypeId} {v v' u : Value} {vs : List Value} {LL : List (List Int)} {L : List Int} (h : OwnLL w lo hi eo e v vs LL)
    (hu : Own w lou hiu e u (ints L)) (hlou : hi ≤ lou) (hlo : lo ≤ lou) (ho : Own w' lo w'.heap.size eo v' (vs ++ [u])) (hg : w.grownBy w' v.ownBlock) (hat : v'.ownBlock = v.ownBlock ∨ v'.ownBlock = some w.heap.size) :
    OwnLL w' lo w'.heap.size eo e v' (vs ++ [u]) (LL ++ [L]) := by
  have hL : ∀ (k : Nat) x g, vs[k]? = some x → x.ownBlock = some g → g < hi := fun k x g hx hgx => by
    have hkv := (List.getElem?_eq_some_iff.1 hx).1
    have hkl : k < LL.length := by rw [← h.len]; exact hkv
    exact (h.inner k x LL[k] hx (List.getElem?_eq_getElem hkl)).lt g hgx
  refine h.push ho (fun k x M hx hM => ?_) ?_ (fun g hgu hv => ?_) (fun k x g hx hgx => ⟨fun hv => ?_, fun hgu => ?_⟩)
  · have hk := h.inner k x M hx hM
    refine (hk.grown hg ?_).more
    cases hb : x.ownBlock with
    | none => exact .inl rfl
    | some g => exact .inr fun e => h.apartO k x g hx hb e.symm
  · refine ((hu.grown hg ?_).more).lower hlo
    cases hb : u.ownBlock with
    | none => exact .inl rfl
    | some g => exact .inr fun e => by have h1 := hu.base g hb; have h2 := h.outer.lt g e.symm; omega
  · have h1 := hu.base g hgu
    rcases hat with e | e
    · have h2 := h.outer.lt g (e ▸ hv); omega
    · rw [e] at hv; cases hv; have h2 := hu.lt _ hgu; have h3 := hu.le; omega
  · rcases hat with e | e
    · exact h.apartO k x g hx hgx (e ▸ hv)
    · rw [e] at hv; cases hv; have h2 := hL k x _ hx hgx; have h3 := h.le; omega
  · have h1 := hu.base g hgu; have h2 := hL k x g hx hgx; omega
/-- the k-th list, its block and its place -/
theorem OwnLL.at_ {w : World} {lo hi : Nat} {eo e : TypeId} {a : Option Addr} {n c : Nat} {vs : List Value} {LL : List (List Int)} (h : OwnLL w lo hi eo e (.slice a n c) vs LL) {k : Nat} (hk : k < LL.length) :
    ∃ g a' c', a = some ⟨g, 0, none⟩ ∧ lo ≤ g ∧ g < hi ∧ w.cell? ⟨g, k, none⟩ = some (.slice a' LL[k].length c') ∧ Own w lo hi e (.slice a' LL[k].length c') (ints LL[k]) ∧ vs[k]? = some (.slice a' LL[k].length c') := by
  have hkv : k < vs.length := by rw [h.len]; exact hk
  obtain ⟨g, c1, e1, h1, h2, h3, _⟩ := h.outer.at_ hkv
  injection e1 with e1 _ _
  have hi' := h.inner k vs[k] LL[k] (List.getElem?_eq_getElem hkv) (List.getElem?_eq_getElem hk)
  obtain ⟨a', c', e2⟩ := hi'.form
  rw [List.length_map] at e2
  exact ⟨g, a', c', e1, h1, h2, by rw [h3, e2], e2 ▸ hi', by rw [List.getElem?_eq_getElem hkv, e2]⟩
/-- one list written anew in its place -/
theorem OwnLL.setIn {w w' : World} {lo hi : Nat} {eo e : TypeId} {v u : Value} {vs : List Value} {LL : List (List Int)} {L : List Int} (h : OwnLL w lo hi eo e v vs LL) {k : Nat} (hk : vs[k]? = some u)
    (hg : w.grownBy w' u.ownBlock) (hu : Own w' lo hi e u (ints L)) : OwnLL w' lo hi eo e v vs (LL.set k L) := by
  have hv : v.ownBlock = none ∨ v.ownBlock ≠ u.ownBlock := by
    cases hb : v.ownBlock with
    | none => exact .inl rfl
    | some g => exact .inr fun e => h.apartO k u g hk e.symm hb
  refine ⟨h.outer.grown hg hv, by rw [List.length_set]; exact h.len, fun j x M hx hM => ?_, h.apartO, h.apart⟩
  rw [List.getElem?_set] at hM
  by_cases hj : k = j
  · subst hj
    rw [if_pos rfl] at hM
    split at hM
    · cases hM
      obtain rfl : x = u := by rw [hk] at hx; cases hx; rfl
      exact hu
    · cases hM
  · rw [if_neg hj] at hM
    refine (h.inner j x M hx hM).grown hg ?_
    cases hb : x.ownBlock with
    | none => exact .inl rfl
    | some g => exact .inr fun e => hj (h.apart k j u x g hk hx e.symm hb)
/-- the marks of lists, one behind another -/
def marksLL (m : Int) : List (List Int) → List (List Int)
  | [] => []
  | L :: R => ((List.range L.length).map fun (j : Nat) => m + (j : Int)) :: marksLL (m + (L.length : Int)) R
def cntLL (LL : List (List Int)) : Nat := (LL.map List.length).sum
theorem cntLL_append (A : List (List Int)) (L : List Int) : cntLL (A ++ [L]) = cntLL A + L.length := by simp [cntLL]
theorem marksLL_append (m : Int) (A : List (List Int)) (L : List Int) : marksLL m (A ++ [L]) = marksLL m A ++ [(List.range L.length).map fun (j : Nat) => (m + (cntLL A : Int)) + (j : Int)] := by
  induction A generalizing m with
  | nil => simp [marksLL, cntLL]
  | cons x R ih =>
    have e : m + (x.length : Int) + (cntLL R : Int) = m + (cntLL (x :: R) : Int) := by simp [cntLL]; omega
    show _ :: marksLL (m + (x.length : Int)) (R ++ [L]) = _
    rw [ih, e]
    rfl
theorem marksLL_len (m : Int) (A : List (List Int)) : (marksLL m A).length = A.length := by
  induction A generalizing m with
  | nil => rfl
  | cons x R ih => simp [marksLL, ih]
theorem cntLL_take (LL : List (List Int)) (k : Nat) : cntLL (LL.take k) ≤ cntLL LL := by
  induction LL generalizing k with
  | nil => simp [cntLL]
  | cons x R ih =>
    cases k with
    | zero => simp [cntLL]
    | succ k => have := ih k; simp [cntLL] at this ⊢; omega
/-- one list more is marked -/
theorem marksLL_set (m : Int) {LL : List (List Int)} {k : Nat} (hk : k < LL.length) :
    (marksLL m (LL.take k) ++ LL.drop k).set k ((List.range LL[k].length).map fun (j : Nat) => (m + (cntLL (LL.take k) : Int)) + (j : Int)) = marksLL m (LL.take (k + 1)) ++ LL.drop (k + 1) := by
  have e1 : (marksLL m (LL.take k)).length = k := by rw [marksLL_len, List.length_take]; omega
  rw [List.drop_eq_getElem_cons hk, List.set_append_right _ _ (by omega), e1, Nat.sub_self, List.set_cons_zero, List.take_succ_eq_append_getElem hk, marksLL_append]
  simp
theorem marksLL_get (m : Int) (LL : List (List Int)) (k : Nat) (hk : k < LL.length) (hh : k < (marksLL m LL).length) :
    (marksLL m LL)[k] = (List.range LL[k].length).map fun (j : Nat) => (m + (cntLL (LL.take k) : Int)) + (j : Int) := by
  induction LL generalizing m k with
  | nil => simp at hk
  | cons x R ih =>
    cases k with
    | zero => simp [marksLL, cntLL]
    | succ k =>
      have h2 : k < (marksLL (m + (x.length : Int)) R).length := by rw [marksLL_len]; simpa using hk
      have := ih (m + (x.length : Int)) k (by simpa using hk) h2
      have e : m + (x.length : Int) + (cntLL (R.take k) : Int) = m + (cntLL ((x :: R).take (k + 1)) : Int) := by simp [cntLL]; omega
      rw [e] at this
      exact this
theorem OwnLL.lt {w : World} {lo hi : Nat} {eo e : TypeId} {v : Value} {vs : List Value} {LL : List (List Int)} (h : OwnLL w lo hi eo e v vs LL) {k : Nat} {x : Value} {g : Nat} (hx : vs[k]? = some x) (hg : x.ownBlock = some g) : lo ≤ g ∧ g < hi := by
  have hkv := (List.getElem?_eq_some_iff.1 hx).1
  have hkl : k < LL.length := by rw [← h.len]; exact hkv
  have hi' := h.inner k x LL[k] hx (List.getElem?_eq_getElem hkl)
  exact ⟨hi'.base g hg, hi'.lt g hg⟩
/-- many lists more by append: theirs were made behind the outer list's -/
theorem OwnLL.appendAll {w w' : World} {lo hi lox hix : Nat} {eo e : TypeId} {v v' vx : Value} {vs vsx : List Value} {LL LLx : List (List Int)} (h : OwnLL w lo hi eo e v vs LL)
    (hx : OwnLL w lox hix eo e vx vsx LLx) (hd : hi ≤ lox) (hlo : lo ≤ lox) (ho : Own w' lo w'.heap.size eo v' (vs ++ vsx)) (hg : w.grownBy w' v.ownBlock) (hat : v'.ownBlock = v.ownBlock ∨ v'.ownBlock = some w.heap.size) :
    OwnLL w' lo w'.heap.size eo e v' (vs ++ vsx) (LL ++ LLx) := by
  have hl := h.len
  have L1 : ∀ {k : Nat} {x : Value} {g : Nat}, vs[k]? = some x → x.ownBlock = some g → lo ≤ g ∧ g < hi := fun a b => h.lt a b
  have L2 : ∀ {k : Nat} {x : Value} {g : Nat}, vsx[k]? = some x → x.ownBlock = some g → lox ≤ g ∧ g < hix := fun a b => hx.lt a b
  have hle := h.le
  have hlx := hx.le
  refine ⟨ho, by simp [hl, hx.len], fun k x M hk hM => ?_, fun k x g hk hgx hv => ?_, fun j k x y g hj hk hgx hgy => ?_⟩
  · by_cases hkv : k < vs.length
    · rw [List.getElem?_append_left hkv] at hk
      rw [List.getElem?_append_left (by omega)] at hM
      refine ((h.inner k x M hk hM).grown hg ?_).more
      cases hb : x.ownBlock with
      | none => exact .inl rfl
      | some g => exact .inr fun e => h.apartO k x g hk hb e.symm
    · rw [List.getElem?_append_right (by omega)] at hk
      rw [List.getElem?_append_right (by omega), ← hl] at hM
      refine (((hx.inner _ x M hk hM).grown hg ?_).more).lower hlo
      cases hb : x.ownBlock with
      | none => exact .inl rfl
      | some g => exact .inr fun e => by have h1 := L2 hk hb; have h2 := h.outer.lt g e.symm; omega
  · by_cases hkv : k < vs.length
    · rw [List.getElem?_append_left hkv] at hk
      rcases hat with e | e
      · exact h.apartO k x g hk hgx (e ▸ hv)
      · rw [e] at hv; cases hv; have h2 := L1 hk hgx; omega
    · rw [List.getElem?_append_right (by omega)] at hk
      have h2 := L2 hk hgx
      rcases hat with e | e
      · have h1 := h.outer.lt g (e ▸ hv); omega
      · rw [e] at hv; cases hv; omega
  · by_cases hjv : j < vs.length
    · rw [List.getElem?_append_left hjv] at hj
      by_cases hkv : k < vs.length
      · rw [List.getElem?_append_left hkv] at hk
        exact h.apart j k x y g hj hk hgx hgy
      · rw [List.getElem?_append_right (by omega)] at hk
        have h1 := L1 hj hgx; have h2 := L2 hk hgy; omega
    · rw [List.getElem?_append_right (by omega)] at hj
      by_cases hkv : k < vs.length
      · rw [List.getElem?_append_left hkv] at hk
        have h1 := L2 hj hgx; have h2 := L1 hk hgy; omega
      · rw [List.getElem?_append_right (by omega)] at hk
        have := hx.apart _ _ x y g hj hk hgx hgy
        omega
theorem Own.single (w : World) (u : Value) (e : TypeId) : Own (w.alloc (.cells #[u] e)) w.heap.size (w.heap.size + 1) e (.slice (some ⟨w.heap.size, 0, none⟩) 1 1) [u] :=
  ⟨⟨rfl, .inr ⟨w.heap.size, 1, #[u], rfl, Nat.le_refl _, heap_alloc_new w _, Nat.le_refl _, by decide, rfl, rfl⟩⟩, fun g hg => by simp [Value.ownBlock] at hg; omega, by simp⟩
/-- a list of one list -/
theorem OwnLL.single {w : World} {lo hi : Nat} {eo e : TypeId} {u : Value} {L : List Int} (hu : Own w lo hi e u (ints L)) (hlo : lo ≤ w.heap.size) :
    OwnLL (w.alloc (.cells #[u] eo)) lo (w.heap.size + 1) eo e (.slice (some ⟨w.heap.size, 0, none⟩) 1 1) [u] [L] := by
  have hle := hu.le
  have one : ∀ (k : Nat) x, [u][k]? = some x → k = 0 ∧ x = u := fun k x hx => by
    match k, hx with
    | 0, hx => simp at hx; exact ⟨rfl, hx.symm⟩
  refine ⟨(Own.single w u eo).lower hlo, rfl, fun k x M hx hM => ?_, fun k x g hx hg hv => ?_, fun j k x y g hx hy _ _ => ?_⟩
  · obtain ⟨rfl, rfl⟩ := one k x hx
    simp at hM
    subst hM
    have h := hu.alloc (.cells #[x] eo)
    exact ⟨h.row, fun g hg => by have := h.lt g hg; omega, by simp⟩
  · obtain ⟨rfl, rfl⟩ := one k x hx
    have := hu.lt g hg
    simp [Value.ownBlock] at hv
    omega
  · rw [(one j x hx).1, (one k y hy).1]
end Go.Proofs.Ythafbdpeignccaa
