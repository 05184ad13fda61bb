/-
  Lists of lists that come in: their sizes, their copies. Walks: the drawing of piles. Walks: the draw of two lists to be put together.
-/
import Derived.Test.YtbbbfaollcklkaaZp1
import Derived.Test.YtbbbfaollcklkaaZp2
import Derived.Test.YtbbbfaollcklkaaZp3
import Derived.Test.YtbbbfaollcklkaaZp4
import Derived.Test.YtbbbfaollcklkaaZp5
import Derived.Test.YtbbbfaollcklkaaZp6
import Derived.Test.YtbbbfaollcklkaaZp7
import Derived.Test.YtbbbfaollcklkaaZp8
import Derived.Test.YtbbbfaollcklkaaZp9
import Derived.Test.YtbbbfaollcklkaaZp10
import Derived.Test.YtbbbfaollcklkaaZp11
import Derived.Test.YtbbbfaollcklkaaZp12
import Derived.Test.YtbbbfaollcklkaaZr1
import Derived.Test.YtbbbfaollcklkaaZr2
import Derived.Test.YtbbbfaollcklkaaZr3
import Derived.Deep.Matrix
import Derived.RegionTactic
import Derived.StillTailTactics
namespace Go.Proofs.Ytbbbfaollcklkaa
open Go.RowKit NP
set_option maxRecDepth 8000
set_option linter.unusedVariables false
set_option linter.unusedSimpArgs false
/-- a list put into its place: its block was made behind all others -/
theorem OwnLL.put {w : World} {lo hi lou : Nat} {eo e : TypeId} {g n c : Nat} {u : Value} {vs : List Value} {LL : List (List Int)} {L : List Int} (h : OwnLL w lo hi eo e (.slice (some ⟨g, 0, none⟩) n c) vs LL)
    (hu : Own w lou w.heap.size e u (ints L)) (hlou : hi ≤ lou) (hlo : lo ≤ lou) {k : Nat} (hk : k < vs.length) : OwnLL (w.setCell ⟨g, k, none⟩ u) lo w.heap.size eo e (.slice (some ⟨g, 0, none⟩) n c) (vs.set k u) (LL.set k L) := by
  have hgh : g < hi := h.outer.lt g rfl
  have hlen := h.len
  have hle := h.le
  refine ⟨h.outer.more.set k u, by rw [List.length_set, List.length_set]; exact hlen, fun j x M hx hM => ?_, fun j x q hx hq hv => ?_, fun i j x y q hx hy hqx hqy => ?_⟩
  · rw [List.getElem?_set] at hx hM
    by_cases hj : k = j
    · subst hj
      rw [if_pos rfl, if_pos hk] at hx
      rw [if_pos rfl, if_pos (by omega)] at hM
      cases hx; cases hM
      exact (hu.off (p := ⟨g, k, none⟩) (fun q hq e => by have := hu.base q hq; have e' : q = g := e; omega) u).lower hlo
    · rw [if_neg hj] at hx hM
      have hi' := h.inner j x M hx hM
      exact (hi'.more).off (p := ⟨g, k, none⟩) (fun q hq e => h.apartO j x q hx hq (by rw [e]; rfl)) u
  · rw [List.getElem?_set] at hx
    have hgq : g = q := by simp [Value.ownBlock] at hv; exact hv
    by_cases hj : k = j
    · subst hj
      rw [if_pos rfl, if_pos hk] at hx
      cases hx
      have := hu.base q hq
      omega
    · rw [if_neg hj] at hx
      exact h.apartO j x q hx hq hv
  · rw [List.getElem?_set] at hx hy
    by_cases hi : k = i
    · subst hi
      rw [if_pos rfl, if_pos hk] at hx
      cases hx
      by_cases hj : k = j
      · exact hj
      · rw [if_neg hj] at hy
        have h1 := h.lt hy hqy
        have h2 := hu.base q hqx
        omega
    · rw [if_neg hi] at hx
      by_cases hj : k = j
      · subst hj
        rw [if_pos rfl, if_pos hk] at hy
        cases hy
        have h1 := h.lt hx hqx
        have h2 := hu.base q hqy
        omega
      · rw [if_neg hj] at hy
        exact h.apart i j x y q hx hy hqx hqy
theorem own_nil2 (w : World) (lo hi : Nat) (e : TypeId) (h : hi ≤ w.heap.size) : Own w lo hi e (.slice none 0 0) [] :=
  ⟨World.ownsRow_nil w lo e 1, fun g hg => by simp [Value.ownBlock] at hg, h⟩
/-- a list of empty lists, laid anew -/
theorem OwnLL.zeros (w : World) (n : Nat) (eo e : TypeId) (hn : n ≤ maxLen) :
    OwnLL (w.alloc (.cells (List.replicate n (Value.slice none 0 0)).toArray eo)) w.heap.size (w.heap.size + 1) eo e (.slice (some ⟨w.heap.size, 0, none⟩) n n) (List.replicate n (Value.slice none 0 0)) (List.replicate n []) := by
  have hb := Blk.new w eo (List.replicate n (Value.slice none 0 0)).toArray
  have ho := hb.own (lo := w.heap.size) (vs := List.replicate n (Value.slice none 0 0)) (Nat.le_refl _) (by simpa using hn)
  rw [List.length_replicate, World.size_alloc] at ho
  refine ⟨ho, by simp, fun k u L hu hL => ?_, fun k u g hu hg => ?_, fun i j u u' g hu hu' hg => ?_⟩
  · have h1 := List.mem_of_getElem? hu
    have h2 := List.mem_of_getElem? hL
    rw [List.mem_replicate] at h1 h2
    rw [h1.2, h2.2]
    exact own_nil2 _ _ _ _ (by simp)
  · have h1 := List.mem_of_getElem? hu
    rw [List.mem_replicate] at h1
    rw [h1.2] at hg
    simp [Value.ownBlock] at hg
  · have h1 := List.mem_of_getElem? hu
    rw [List.mem_replicate] at h1
    rw [h1.2] at hg
    simp [Value.ownBlock] at hg
theorem run_make_lists {P : Program} (t e : TypeId) (i : TypeInfo) (h1 : P.underlying t = some (.slice e)) (h2 : P.info? e = some i) (h3 : i.zero = some (.slice none 0 0)) (h4 : i.size = 1) (h5 : i.bytes = 24)
    (n : Nat) (hn : n ≤ 4194304) (w : World) :
    (Instr.makeSlice t (.int .i64 n) (.int .i64 n)).run P w = .ok (.slice (some ⟨w.heap.size, 0, none⟩) n n) (w.alloc (.cells (List.replicate n (Value.slice none 0 0)).toArray e)) := by
  have hrun := run_make (P := P) w t e i (.slice none 0 0) h1 h2 h3 .i64 .i64 n n (by omega) (by omega) (by rw [h5]; omega) (by omega)
  rw [h4] at hrun
  simp only [Int.toNat_natCast, Nat.mul_one] at hrun
  rw [hrun]
  congr 3
  apply Array.toList_inj.1
  simp [Value.cells, toList_madeCells_one]
theorem fill_setV {us : List Value} {k n : Nat} (hk : us.length = k) (hn : k < n) (u : Value) : (us ++ List.replicate (n - k) (Value.slice none 0 0)).set k u = (us ++ [u]) ++ List.replicate (n - (k + 1)) (Value.slice none 0 0) := by
  rw [List.set_append_right _ _ (by omega), hk, Nat.sub_self, show n - k = (n - (k + 1)) + 1 by omega, List.replicate_succ, List.set_cons_zero, List.append_assoc]
  rfl
theorem fill_setL {LL : List (List Int)} {k : Nat} (hk : k < LL.length) : (LL.take k ++ List.replicate (LL.length - k) []).set k LL[k] = LL.take (k + 1) ++ List.replicate (LL.length - (k + 1)) [] := by
  rw [List.set_append_right _ _ (by simp; omega), List.length_take, Nat.min_eq_left (by omega), Nat.sub_self, show LL.length - k = (LL.length - (k + 1)) + 1 by omega, List.replicate_succ, List.set_cons_zero, List.take_succ_eq_append_getElem hk, List.append_assoc]
  rfl
/-- rows that came in, read as lists -/
theorem rows_of {w : World} {a : Addr} {len cap : Nat} {A : Nat → Option Addr} {L C : Nat → Nat} {Z : Nat → List Int} (hl : len ≤ cap)
    (h : ∀ r, r < cap → w.cell? (a.add r) = some (.slice (A r) (L r) (C r)) ∧ L r ≤ C r ∧ C r ≤ maxLen ∧ (Z r).length = C r ∧ (∀ n ∈ Z r, (Lit.int .i64 n).wf = true) ∧ (A r = none → C r = 0) ∧
      ∀ a', A r = some a' → 0 ≤ a'.block ∧ ∀ c, c < C r → w.cell? (a'.add c) = some (.int .i64 ((Z r).getD c 0))) :
    ∃ LL : List (List Int), LL.length = len ∧ RdLL w w.heap.size (some a) LL ∧ ∀ M ∈ LL, M.length ≤ maxLen := by
  have each : ∀ r, r < len → ∃ M : List Int, M.length = L r ∧ Rd w w.heap.size (A r) (ints M) ∧ M.length ≤ maxLen ∧ M.length ≤ C r := by
    intro r hr
    obtain ⟨h1, h2, h3, h4, h5, h6, h7⟩ := h r (by omega)
    have hrow : IsRow .i64 w (A r) (L r) (C r) (Z r) := by
      cases ha : A r with
      | none =>
        have := h6 ha
        exact .inl ⟨rfl, by omega, this, List.eq_nil_of_length_eq_zero (by omega)⟩
      | some x => exact .inr ⟨x, rfl, h2, h3, h4, fun i hi => (h7 x ha).2 i (by omega), h5⟩
    obtain ⟨M, e1, e2, _, e4⟩ := hrow.rd
    exact ⟨M, e1, e2, by omega, by omega⟩
  obtain ⟨y, hy⟩ := Go.Deep.choose_lt each
  refine ⟨(List.range len).map y, by simp, ⟨(List.range len).map fun r => .slice (A r) (L r) (C r), ?_, by simp, ?_⟩, ?_⟩
  · intro hne
    have h0 : 0 < len := by
      rcases Nat.eq_zero_or_pos len with h0 | h0
      · subst h0; simp at hne
      · exact h0
    obtain ⟨b, o, spot⟩ := a
    have hc0 := (h 0 (by omega)).1
    have hspot : spot = none := by simpa [Addr.add] using World.cell?_spot hc0
    subst hspot
    have hlt := World.block_lt_of_cell? _ _ hc0
    refine ⟨b, o, rfl, by simpa [Addr.add] using hlt, fun k v hv => ?_⟩
    have hk := (List.getElem?_eq_some_iff.1 hv).1
    simp at hk
    have h1 := (h k (by omega)).1
    rw [Addr.add_lit] at h1
    rw [h1]
    simpa [hk] using hv
  · intro k v M hv hM
    have hk := (List.getElem?_eq_some_iff.1 hv).1
    simp at hk
    simp [hk] at hv hM
    subst hv hM
    obtain ⟨e1, e2, e3, e4⟩ := hy k hk
    exact ⟨A k, C k, by rw [e1], e2, e4⟩
  · intro M hM
    obtain ⟨r, hr, rfl⟩ := List.mem_map.1 hM
    exact (hy r (List.mem_range.1 hr)).2.2.1
/-- what is left of a size when lists are taken from it -/
def szs (left : Int) : List (List Int) → Int
  | [] => left
  | L :: R => if left - (L.length : Int) < 0 then -1 else szs (left - (L.length : Int)) R
theorem szs_neg (left : Int) (LL : List (List Int)) (h : 0 ≤ left) (hs : 0 ≤ szs left LL) : ∀ L ∈ LL, (L.length : Int) ≤ left := by
  induction LL generalizing left with
  | nil => intro L hL; cases hL
  | cons x R ih =>
    unfold szs at hs
    split at hs
    · omega
    · rename_i h1
      intro L hL
      rcases List.mem_cons.1 hL with rfl | hL
      · omega
      · have := ih (left - (x.length : Int)) (by omega) hs L hL
        omega
theorem szs_cnt (left : Int) (LL : List (List Int)) (h : 0 ≤ left) (hs : 0 ≤ szs left LL) : (cntLL LL : Int) ≤ left := by
  induction LL generalizing left with
  | nil => simp [cntLL]; exact h
  | cons x R ih =>
    unfold szs at hs
    split at hs
    · omega
    · rename_i h1
      have := ih (left - (x.length : Int)) (by omega) hs
      simp [cntLL] at this ⊢
      omega
def szF (left : Int) (LL : List (List Int)) : Int := if left - (LL.length : Int) < 0 then -1 else szs (left - (LL.length : Int)) LL
theorem szF_ok {LL : List (List Int)} (h : 0 ≤ szF 1048576 LL) : LL.length ≤ 1048576 ∧ (∀ L ∈ LL, L.length ≤ 1048576) ∧ cntLL LL ≤ 1048576 := by
  unfold szF at h
  split at h
  · omega
  · rename_i h1
    have h2 := szs_neg _ _ (by omega) h
    have h3 := szs_cnt _ _ (by omega) h
    refine ⟨by omega, fun L hL => ?_, by omega⟩
    have := h2 L hL
    omega
theorem szs_drop (left : Int) {LL : List (List Int)} {k : Nat} (hk : k < LL.length) : szs left (LL.drop k) = if left - (LL[k].length : Int) < 0 then -1 else szs (left - (LL[k].length : Int)) (LL.drop (k + 1)) := by
  rw [List.drop_eq_getElem_cons hk]
  rfl
theorem T_ints3 : (Try.prog.info? 22).map (fun i => (i.zero, i.size, i.bytes)) = some (some (.slice none 0 0), 1, 24) := by kernel_rfl
theorem szIntS_any (a : Option Addr) (c n : Nat) (left : Int) (w : World) (hl : 0 ≤ left ∧ left ≤ 4611686018427387904) (hn : n ≤ 9223372036854775807) :
    Calls Try.prog 36 #[.slice a n c, .int .i64 left] w fun e w' => e = .returned (.int .i64 (if left - (n : Int) < 0 then -1 else left - (n : Int))) ∧ w = w' := by
  by_cases h : left - (n : Int) < 0
  · rw [if_pos h]
    go_enter Try.func36, Try.ntmps36
    go_wp2
    go_ret
    exact ⟨rfl, rfl⟩
  · rw [if_neg h]
    have h' : 0 ≤ left - (n : Int) := by omega
    go_enter Try.func36, Try.ntmps36
    go_wp2
    go_ret
    exact ⟨rfl, rfl⟩
end Go.Proofs.Ytbbbfaollcklkaa
namespace Go.Proofs.Ytbbbfaollcklkaa
open Go.RowKit NP
set_option maxRecDepth 100000
set_option linter.unusedVariables false
set_option linter.unusedSimpArgs false
theorem mrg_length (L : List Int) : (mrg L).length = L.length := by
  have := (fold_ins L []).1
  simpa [mrg] using this
theorem sumL_bds (L : List Int) (hx : ∀ x ∈ L, 1 ≤ x ∧ x ≤ 16) : (L.length : Int) ≤ sumL L ∧ sumL L ≤ 16 * L.length := by
  induction L with
  | nil => simp [sumL]
  | cons y L ih =>
    have h1 := ih fun x h => hx x (List.mem_cons_of_mem _ h)
    have h2 := hx y List.mem_cons_self
    rw [show sumL (y :: L) = y + sumL L by simp [sumL], List.length_cons]
    omega
theorem sumFits_small (L : List Int) (h : L.length ≤ 16) (hx : ∀ x ∈ L, 1 ≤ x ∧ x ≤ 16) : sumFits L := fun k hk => by
  have h1 := sumL_bds (L.take k) fun x h => hx x (List.mem_of_mem_take h)
  rw [List.length_take] at h1
  omega
theorem sumL_small (L : List Int) (h : L.length ≤ 16) (hx : ∀ x ∈ L, 1 ≤ x ∧ x ≤ 16) (hn : 0 < L.length) : 1 ≤ sumL L ∧ sumL L ≤ 256 := by
  have := sumL_bds L hx
  omega
theorem OwnLL.chg {w w' : World} {g lo hi : Nat} {eo e : TypeId} {v : Value} {vs : List Value} {LL : List (List Int)} (h : OwnLL w lo hi eo e v vs LL) (hg : w.grownBy w' (some g)) (hlt : g < lo) : OwnLL w' lo hi eo e v vs LL :=
  ⟨h.outer.chg hg hlt, h.len, fun k u L a b => (h.inner k u L a b).chg hg hlt, h.apartO, h.apart⟩
theorem partsOfN_any (g q : Nat) (n : Int) (bs : List Int) (w : World) (hn0 : 0 ≤ n) (hn : n ≤ 16) (hq : q ≤ 900000) (h : Rdr w g bs q) :
    Calls Try.prog 59 #[.pointer (some ⟨g, 0, none⟩), .int .i64 n] w fun e w' => ∃ a' c' M, e = .returned (.slice a' M.length c') ∧ Own w' w.heap.size w'.heap.size 3 (.slice a' M.length c') (ints M) ∧ SmallParts M ∧ (0 < n → 0 < M.length) ∧ (∃ q', q' ≤ q + 32 ∧ Rdr w' g bs q') ∧ w.grownBy w' (some g) := by
  obtain ⟨i0, hi, hz0, hz1, hz2⟩ := T_int'
  have hlt := h.lt
  go_enter Try.func59, Try.ntmps59
  go_wp2_with fail
  go_loopw [1, 5] (fun nn v wr => ∃ (m : Nat) (q' : Nat) (M : List Int), nn = .int .i64 (m : Int) ∧ (M.length + m ≤ 16 ∧ (0 < n → 0 < M.length + m)) ∧ q' + 2 * m ≤ q + 32 ∧ Rdr wr g bs q' ∧ w.grownBy wr (some g) ∧ Own wr w.heap.size wr.heap.size 3 v (ints M) ∧ Hid (∀ x ∈ M, 1 ≤ x ∧ x ≤ 16)) (fun nn _ _ => (intOf nn).toNat)
  case atStart =>
    obtain ⟨m, rfl⟩ := Int.eq_ofNat_of_zero_le hn0
    exact ⟨m, q, [], rfl, by simp; omega, by omega, h.below ((Below.refl _ _).alloc hlt _), World.grownBy_alloc w _ _, (Own.empty w 3).more, Lib.hid (by simp)⟩
  case round =>
    obtain ⟨m, q', M, rfl, ⟨hMm, hNE⟩, hqm, hr, hg, hown, HM⟩ := hrel
    by_cases hm : 0 < m
    · have hm' : (0 : Int) < (m : Int) := by omega
      have hltr := hr.lt
      have HO := Lib.hid hown
      clear hown
      go_wp2_with fail
      refine (one_any g q' _ _ _ [3, 5, 9, 2, 16] bs _ (by simp) (by simp) (by omega) (hr.below ((Below.refl _ _).alloc hltr _)) (rd_new wr _ _) (by intro b o e; injection e with e; injection e with e; omega)).mono ?_
      rintro e w1 ⟨k, hk, rfl, h1, hg1, -⟩
      have hx : ∀ x ∈ ([3, 5, 9, 2, 16] : List Int), 2 ≤ x ∧ x ≤ 16 := by decide
      have hx1 := hx _ (List.getElem_mem hk)
      obtain ⟨x, hxx⟩ : ∃ x, x = ([3, 5, 9, 2, 16] : List Int)[k] := ⟨_, rfl⟩
      rw [← hxx] at hx1 ⊢
      clear hx hxx hk
      have hzr := hg.size
      have HO1 := Lib.hid ((HO.out.alloc (.cells (ints [3, 5, 9, 2, 16]).toArray 3)).chg hg1 (by omega)).more
      have hgw1 := chg_trans (chg_alloc hg (.cells (ints [3, 5, 9, 2, 16]).toArray 3)) hg1
      clear hg1 HO
      go_wp2_with fail
      all_goals
        refine (pick_any g _ _ bs _ (by omega) (by omega) h1).mono ?_
        rintro e w2 ⟨y, rfl, hy0, hy1, h2, hg2, -⟩
        obtain ⟨y, rfl⟩ := Int.eq_ofNat_of_zero_le hy0
        have hym : y + 1 ≤ m := by have := hy1 (by omega); omega
        clear hy1
        have hown2 := (HO1.out.chg hg2 (by omega)).more
        have hgw2 := chg_trans hgw1 hg2
        have hzw2 := hgw2.size
        clear hgw1 hg2 HO1
        go_wp2_with (at_builtin; refine wpList_append_o _ rfl (.tmp 18) (.tmp 20) 22 rfl w.heap.size w2.heap.size 3 i0 (.int .i64 0) 8 Try.underlying22 hi hz0 hz1 hz2 rfl _ (ints M) rfl (hown2.alloc _) (w2.heap.size + 1) (some ⟨w2.heap.size, 0, none⟩) 1 1 [.int .i64 (1 + (y : Int))] rfl (Rd.one w2 _ _) rfl (by simp; rfl) (by simp; unfold maxLen; omega) (by simp; omega) (by simp; omega) ?_; intro v' w3 ho3 hg3 hat3)
        go_roundw
        case rel =>
          refine ⟨m - (1 + y), q' + 2, M ++ [1 + (y : Int)], by go_num, ⟨by simp; omega, fun _ => by simp; omega⟩, by omega, (h2.row (World.grownBy_alloc w2 _ none) (by simp)).row hg3 (fun k hk => by have := hown2.base k hk; omega), chg_row (chg_alloc hgw2 _) hg3 hown2.base, by simpa [ints] using ho3, Lib.hid fun x hx => ?_⟩
          simp at hx
          rcases hx with hx | hx
          · exact HM.out x hx
          · omega
        case measure => simp [intOf]; omega
    · obtain rfl : m = 0 := by omega
      obtain ⟨a0, c0, rfl⟩ := hown.form
      have hs : SmallParts M := ⟨by omega, HM.out⟩
      have HS := Lib.hid (mrg_small hs)
      have HNE : Hid (0 < n → 0 < (mrg M).length) := Lib.hid (fun h9 => by have := hNE h9; rw [mrg_length]; omega)
      clear hNE
      have hlM : (ints M).length = M.length := by simp
      rw [hlM] at hown ⊢
      have HO := Lib.hid hown
      clear hown hlM
      go_wp2_with fail
      refine (merge_any _ _ _ M _ HO.out.rd (by omega) (by have := hs.1; omega)).mono ?_
      rintro e w1 ⟨a', c', rfl, ho1, hb1⟩
      go_wp2_with fail
      go_ret
      exact ⟨a', c', mrg M, rfl, ho1.lower hg.size, HS.out, HNE.out, ⟨q', by omega, hr.below (hb1.mono hr.lt)⟩, chg_below hg (hb1.mono hg.size)⟩
theorem T_intsD : (Try.prog.info? 22).map (fun i => (i.zero, i.size, i.bytes)) = some (some (.slice none 0 0), 1, 24) := by kernel_rfl
end Go.Proofs.Ytbbbfaollcklkaa
namespace Go.Proofs.Ytbbbfaollcklkaa
open Go.RowKit NP
set_option maxRecDepth 100000
set_option linter.unusedVariables false
set_option linter.unusedSimpArgs false
set_option maxHeartbeats 1000000 in
theorem kindList_own (s : ByteArray) (K : List Int → Bool) (hSK : SK s K) (n : Nat) (hn : n ≤ 12) (w : World) :
    Calls Try.prog 61 #[.string s, .int .i64 (n : Int)] w fun e w' => ∃ (a' : Option Addr) (c' : Nat) (us : List Value), e = .returned (.slice a' ((allQ n n n).filter K).length c') ∧ OwnLL w' w.heap.size w'.heap.size 22 3 (.slice a' ((allQ n n n).filter K).length c') us ((allQ n n n).filter K) ∧ Below w.heap.size w w' := by
  obtain ⟨i0, hi, hz0, hz1, hz2⟩ := T_int'
  obtain ⟨i1, hj, hy0, hy1, hy2⟩ := T_ints'
  have hE := OwnLL.empty w 22 3
  obtain ⟨w1, hw1⟩ : ∃ w1, w1 = w.alloc (.cells #[] 22) := ⟨_, rfl⟩
  have hb1 : Below w.heap.size w w1 := hw1 ▸ (Below.refl _ _).alloc (Nat.le_refl _) _
  have hz1' : w1.heap.size = w.heap.size + 1 := by rw [hw1, World.size_alloc]
  have HW1 := Lib.hid hw1
  have HZ1 := Lib.hid hz1'
  rw [← hw1] at hE
  clear hw1 hz1'
  have HZ2 : Hid ((w1.alloc (.cells #[] 3)).heap.size = w.heap.size + 1 + 1) := Lib.hid (by rw [World.size_alloc, HZ1.out])
  obtain ⟨LL, hLL⟩ : ∃ LL, LL = allQ n n n := ⟨_, rfl⟩
  have HOK : Hid (∀ L ∈ LL, valid L = true ∧ SmallParts L) := Lib.hid (hLL ▸ allQ_ok hn)
  have hle : LL.length ≤ 400 := hLL ▸ allQ_le (by omega) (by omega) (by omega)
  have HL := Lib.hid hLL
  clear hLL
  go_enter Try.func61, Try.ntmps61
  go_wp2_with fail
  rw [← HW1.out]
  refine (slist_lists n (by omega) n _ 0 (w1.alloc (.cells #[] 3)).heap.size [] n _ (Nat.le_refl _) (by simp; omega) (by omega) (fun h => absurd rfl h) (Nat.le_refl _)).mono ?_
  rintro e w2 ⟨a6, c6, vs, rfl, h6, hb2⟩
  rw [show List.map (fun x => [] ++ x) (allQ n n n) = allQ n n n from by simp, ← HL.out] at h6
  rw [← HL.out]
  rw [HZ2.out] at h6 hb2
  have HALL := Lib.hid (h6.lower (show w.heap.size + 1 ≤ w.heap.size + 1 + 1 by omega))
  clear h6
  have hbw2 : Below w.heap.size w w2 := (hb1.alloc hb1.size _).trans (hb2.mono (by omega))
  have hE2 := (hE.below ((Below.refl _ _).alloc (by have := HZ1.out; omega) (.cells #[] 3))).below (hb2.mono (show w.heap.size + 1 ≤ w.heap.size + 1 + 1 by omega))
  have hsz2 : w.heap.size + 1 ≤ w2.heap.size := by have := hb2.size; rw [HZ2.out] at this; omega
  go_wp2_with fail
  clear hE hb1 hb2
  go_loopw [5, 7] (fun v ii wr => ∃ (i : Nat) (us : List Value), ii = .int .i64 (i : Int) ∧ i ≤ LL.length ∧ us.length ≤ i ∧ OwnLL wr w.heap.size wr.heap.size 22 3 v us ((LL.take i).filter K) ∧ (∀ g, v.ownBlock = some g → g < w.heap.size + 1 ∨ w2.heap.size ≤ g) ∧ (∀ u ∈ us, ∃ j, j < i ∧ vs[j]? = some u) ∧ Kp w2 wr (w.heap.size + 1) ∧ Below w.heap.size w wr) (fun _ ii _ => LL.length - (intOf ii).toNat)
  case atStart => exact ⟨0, [], rfl, Nat.zero_le _, Nat.le_refl _, by simpa using hE2.more, fun g hg => by left; cases hg; exact Nat.lt_succ_self _, by simp, ⟨Nat.le_refl _, fun _ _ _ => rfl⟩, hbw2⟩
  case round =>
    obtain ⟨i, us, rfl, hiN, hui, ho, hout, hmem, hkp, hbel⟩ := hrel
    clear hE2 hbw2
    have HO := Lib.hid ho
    clear ho
    by_cases hlt : i < LL.length
    · have hlt' : (i : Int) < (LL.length : Int) := by omega
      obtain ⟨hv, hs⟩ := HOK.out _ (List.getElem_mem hlt)
      have HAL := Lib.hid (HALL.out.keep hkp.1 hkp.2)
      obtain ⟨gA, aM, cM, rfl, hgl, hgh, hcell, hoM, hvk⟩ := HAL.out.at_ hlt
      have HT := Lib.hid (show (LL.take (i + 1)).filter K = (LL.take i).filter K ++ [LL[i]].filter K by rw [List.take_succ_eq_append_getElem hlt, List.filter_append])
      obtain ⟨M, hM⟩ : ∃ M, M = LL[i] := ⟨_, rfl⟩
      rw [← hM] at hv hs hcell hoM hvk HT
      have HV := Lib.hid hv
      have HR := Lib.hid hoM.rd
      have HOM := Lib.hid hoM
      have HVK := Lib.hid hvk
      clear hv hs hM hoM hvk
      have hkz := hkp.1
      cases hK : K M with
      | false =>
        have HK := Lib.hid hK
        clear hK
        go_wp2_with (go_at_call 82; refine (hSK _ _ _ M _ HV.out HR.out (by omega)).mono ?_; rintro e w3 ⟨rfl, hb3⟩; rw [HK.out])
        go_roundw
        case rel =>
          refine ⟨i + 1, us, by go_num, by omega, by omega, ?_, hout, fun u hu => ?_, hkp.below hb3, hbel.trans (hb3.mono hbel.size)⟩
          · rw [HT.out]
            have e0 : [M].filter K = [] := by simp [HK.out]
            rw [e0, List.append_nil]
            exact (HO.out.below hb3).more
          · obtain ⟨j, h1, h2⟩ := hmem u hu
            exact ⟨j, by omega, h2⟩
        case measure => simp [intOf] <;> omega
      | true =>
        have HK := Lib.hid hK
        clear hK
        go_wp2_with (first
          | (at_builtin; refine wpList_append_o _ rfl (.tmp 31) (.tmp 36) 76 rfl w.heap.size w3.heap.size 22 i1 (.slice none 0 0) 24 Try.underlying76 hj hy0 hy1 hy2 rfl _ us rfl ((HO.out.outer.below hb3).more.alloc _) (w3.heap.size + 1) (some ⟨w3.heap.size, 0, none⟩) 1 1 [.slice aM M.length cM] rfl (Rd.one w3 _ _) rfl (by intro u hu; rw [List.mem_singleton.1 hu]; rfl) (by unfold maxLen; omega) (by omega) (by rw [World.size_alloc]; have := hbel.size; have := hb3.size; omega) ?_; intro v' w6 ho6 hg6 hat6)
          | (go_at_call 82; refine (hSK _ _ _ M _ HV.out HR.out (by omega)).mono ?_; rintro e w3 ⟨rfl, hb3⟩; rw [HK.out]; have hcell3 := (hb3.cell (p := ⟨gA, i, none⟩) (World.block_lt_of_cell? _ _ hcell)).trans hcell))
        go_roundw
        case rel =>
          have hz3 := hb3.size
          have hrow := HO.out.outer.base
          have hvn : ∀ g, v'.ownBlock = some g → g < w.heap.size + 1 ∨ w2.heap.size ≤ g := fun g hg => by
            rcases hat6 with e | e
            · exact hout g (e ▸ hg)
            · rw [e] at hg
              cases hg
              right
              rw [World.size_alloc]
              omega
          have hAlo : ∀ (j : Nat) x g, vs[j]? = some x → x.ownBlock = some g → w.heap.size + 1 ≤ g ∧ g < w2.heap.size := fun j x g hx hg => by
            have hjl := (List.getElem?_eq_some_iff.1 hx).1
            have hjL : j < LL.length := by rw [← HALL.out.len]; exact hjl
            have hin := HALL.out.inner j x LL[j] hx (List.getElem?_eq_getElem hjL)
            exact ⟨hin.base g hg, hin.lt g hg⟩
          have hOM6 : Own w6 w.heap.size w6.heap.size 3 (.slice aM M.length cM) (ints M) := by
            have h3 := ((HOM.out.below (hb3.mono hkp.1)).alloc (.cells #[.slice aM M.length cM] 22))
            refine ((h3.grown hg6 ?_).more).lower (by omega)
            cases hb : (Value.slice aM M.length cM).ownBlock with
            | none => exact .inl rfl
            | some g =>
              refine .inr fun e => ?_
              have h4 := hAlo i _ g HVK.out hb
              have h5 := hout g e.symm
              omega
          have hstep : OwnLL w6 w.heap.size w6.heap.size 22 3 v' (us ++ [.slice aM M.length cM]) ((LL.take i).filter K ++ [M]) := by
            refine (HO.out.below hb3).push (by simpa using ho6) (fun k x L hx hL => ?_) hOM6 (fun g hg e => ?_) (fun k x g hx hg => ?_)
            · have hk := (HO.out.below hb3).inner k x L hx hL
              refine ((hk.alloc (.cells #[.slice aM M.length cM] 22)).grown hg6 ?_).more
              cases hb : x.ownBlock with
              | none => exact .inl rfl
              | some g => exact .inr fun e => HO.out.apartO k x g hx hb e.symm
            · have h4 := hAlo i _ g HVK.out hg
              have h5 := hvn g e
              omega
            · obtain ⟨j, hj1, hj2⟩ := hmem x (List.mem_of_getElem? hx)
              have h4 := hAlo j x g hj2 hg
              refine ⟨fun e => by have h5 := hvn g e; omega, fun e => ?_⟩
              have := HALL.out.apart j i x _ g hj2 HVK.out hg e
              omega
          refine ⟨i + 1, us ++ [.slice aM M.length cM], by go_num, by omega, by simp; omega, ?_, hvn, fun u hu => ?_, ((hkp.below hb3).alloc _).grown hg6 (fun g hg => by have := hout g hg; omega), below_push (hbel.trans (hb3.mono hbel.size)) (Nat.le_refl _) hg6 hrow⟩
          · rw [HT.out]
            have e0 : [M].filter K = [M] := by simp [HK.out]
            rw [e0]
            exact hstep
          · rcases List.mem_append.1 hu with h | h
            · obtain ⟨j, h1, h2⟩ := hmem u h
              exact ⟨j, by omega, h2⟩
            · rw [List.mem_singleton.1 h]; exact ⟨i, by omega, HVK.out⟩
        case measure => simp [intOf] <;> omega
    · obtain rfl : i = LL.length := by omega
      obtain ⟨a5, c5, rfl⟩ := HO.out.form
      have HE : Hid ((LL.take LL.length).filter K = LL.filter K) := Lib.hid (by rw [List.take_of_length_le (Nat.le_refl _)])
      go_wp2_with fail
      go_ret
      have hq : (LL.take LL.length).filter K = (allQ n n n).filter K := by rw [HE.out, HL.out]
      have h1 := HO.out
      rw [hq] at h1
      exact ⟨a5, c5, us, by rw [← hq]; rfl, h1, hbel⟩
theorem dist_some : ([4, 3, 5, 6, 2, 1, 0, 9] : List Nat).all (fun n => (decide (0 < ((allQ n n n).filter (kFall 1 1)).length) && decide (((allQ n n n).filter (kFall 1 1)).length ≤ 100)) && ((allQ n n n).filter (kFall 1 1)).all fun X => decide (X.length ≤ 40)) = true := by decide +kernel
set_option maxHeartbeats 2000000 in
theorem DrawPutMarked_any (a : Option Addr) (c B : Nat) (bs : List Int) (w : World) (h : Rd w B a (bs.map (Value.int .u8))) (hB : B ≤ w.heap.size) (hb : ∀ n ∈ bs, (Lit.int .u8 n).wf = true) (hl : bs.length ≤ 1048576) (hc : bs.length ≤ c) :
    Calls Try.prog 32 #[.slice a bs.length c] w fun e w' => ∃ a1 c1 M1 a2 c2 M2, e = .returned (.tuple #[.slice a1 M1.length c1, .slice a2 M2.length c2]) ∧ Rd w' w'.heap.size a1 (ints M1) ∧ Rd w' w'.heap.size a2 (ints M2) ∧ M1.length ≤ 40 ∧ M2.length ≤ 40 ∧ Below w.heap.size w w' := by
  go_enter Try.func32, Try.ntmps32
  go_wp2_with fail
  refine (newReader_any _ _ B bs _ h hB hb hl hc).mono ?_
  rintro e w1 ⟨rfl, h1, hb1, -⟩
  have hz1 := hb1.size
  clear h hB hb hl hc
  go_wp2_with fail
  refine (one_any _ _ _ _ _ [4, 3, 5, 2, 6, 1, 0, 8] _ _ (by simp) (by simp) (by omega) (h1.below ((Below.refl _ _).alloc h1.lt _)) (rd_new w1 _ _) (by intro b o e; injection e with e; injection e with e; have := h1.lt; omega)).mono ?_
  rintro e w2 ⟨k, hk, rfl, h2, hg2, -⟩
  have hx : ∀ x ∈ ([4, 3, 5, 2, 6, 1, 0, 8] : List Int), 0 ≤ x ∧ x ≤ 16 := by decide
  have hx1 := hx _ (List.getElem_mem hk)
  generalize ([4, 3, 5, 2, 6, 1, 0, 8] : List Int)[k] = x at hx1 ⊢
  have hA2 := (hb1.alloc hb1.size (.cells (ints [4, 3, 5, 2, 6, 1, 0, 8]).toArray 3)).trans ((Chg.of hg2 (Nat.le_refl _)).below (by simp; omega))
  clear hk hx hg2 h1 hb1
  go_wp2_with fail
  refine (partsOf_any w.heap.size _ x _ _ (by omega) (by omega) (by omega) h2).mono ?_
  rintro e w3 ⟨a2, c2, M2, rfl, o2, s2, ⟨q3, hq3, h3⟩, hg3⟩
  have hlt2 := h2.lt
  have hA3 := hA2.trans ((Chg.of hg3 (Nat.le_refl _)).below (by omega))
  have hz3 := hA3.size
  have hM2 := s2.1
  have O2 := Lib.hid o2
  clear hA2 hg3 h2 s2 o2
  go_wp2_with fail
  refine (one_any _ _ _ _ _ [4, 3, 5, 6, 2, 1, 0, 9] _ _ (by simp) (by simp) (by omega) (h3.below ((Below.refl _ _).alloc h3.lt _)) (rd_new w3 _ _) (by intro b o e; injection e with e; injection e with e; have := h3.lt; omega)).mono ?_
  rintro e w4 ⟨k, hk, rfl, h4, hg4, -⟩
  have hx : ∀ x ∈ ([4, 3, 5, 6, 2, 1, 0, 9] : List Int), ∃ n : Nat, n ∈ ([4, 3, 5, 6, 2, 1, 0, 9] : List Nat) ∧ x = (n : Int) ∧ n ≤ 12 := by
    intro x hx
    simp only [List.mem_cons, List.not_mem_nil, or_false] at hx
    rcases hx with rfl | rfl | rfl | rfl | rfl | rfl | rfl | rfl
    · exact ⟨4, by simp, rfl, by omega⟩
    · exact ⟨3, by simp, rfl, by omega⟩
    · exact ⟨5, by simp, rfl, by omega⟩
    · exact ⟨6, by simp, rfl, by omega⟩
    · exact ⟨2, by simp, rfl, by omega⟩
    · exact ⟨1, by simp, rfl, by omega⟩
    · exact ⟨0, by simp, rfl, by omega⟩
    · exact ⟨9, by simp, rfl, by omega⟩
  obtain ⟨n, hnm, hxn, hn12⟩ := hx _ (List.getElem_mem hk)
  rw [hxn]
  have hds := List.all_eq_true.1 dist_some n hnm
  rw [Bool.and_eq_true, Bool.and_eq_true] at hds
  have hpos := of_decide_eq_true hds.1.1
  have hfew := of_decide_eq_true hds.1.2
  have H40 : Hid (∀ X ∈ (allQ n n n).filter (kFall 1 1), X.length ≤ 40) := Lib.hid (fun X hX => of_decide_eq_true (List.all_eq_true.1 hds.2 X hX))
  have hal := h3.lt
  have hA4 := (hA3.alloc hz3 (.cells (ints [4, 3, 5, 6, 2, 1, 0, 9]).toArray 3)).trans ((Chg.of hg4 (Nat.le_refl _)).below (by simp; omega))
  have O4 := Lib.hid ((O2.out.alloc (.cells (ints [4, 3, 5, 6, 2, 1, 0, 9]).toArray 3)).chg hg4 hlt2)
  have hz4 := hA4.size
  clear hk hx hxn hg4 h3 hA3 hds O2
  go_wp2_with fail
  refine (kindList_own ⟨#[100, 105, 115, 116, 105, 110, 99, 116]⟩ (kFall 1 1) sk_distinct n hn12 _).mono ?_
  rintro e w5 ⟨a5, c5, us, rfl, hLL, hb5⟩
  have h5 := h4.below (hb5.mono h4.lt)
  have hA5 := hA4.trans (hb5.mono hz4)
  have O5 := Lib.hid (O4.out.below (hb5.mono O4.out.le))
  have hz5 := hA5.size
  have hlt4 := h4.lt
  have HLL := Lib.hid hLL
  clear hLL hA4 h4 hb5 O4
  obtain ⟨A, hA⟩ : ∃ A, A = (allQ n n n).filter (kFall 1 1) := ⟨_, rfl⟩
  rw [← hA] at HLL hpos hfew H40 ⊢
  clear hA
  go_wp2_with fail
  refine (pick_any _ _ _ _ _ (by omega) (by omega) h5).mono ?_
  rintro e w6 ⟨y, rfl, hp0, hp1, h6, hg6, -⟩
  obtain ⟨j, rfl⟩ := Int.eq_ofNat_of_zero_le hp0
  have hj : j < A.length := by have := hp1 (by omega); omega
  have HL6 := Lib.hid (HLL.out.chg hg6 hlt4)
  have O6 := Lib.hid (O5.out.chg hg6 hlt2)
  have hA6 := hA5.trans ((Chg.of hg6 (Nat.le_refl _)).below (by omega))
  have hz6 := hA6.size
  obtain ⟨gO, aM, cM, eO, hgO1, hgO2, hcO, hoM, -⟩ := HL6.out.at_ hj
  subst eO
  have hM40 := H40.out _ (List.getElem_mem hj)
  have hji : (j : Int) < (A.length : Int) := by omega
  generalize A[j] = X at hcO hoM hM40
  have OX := Lib.hid hoM
  clear hg6 hA5 h5 O5 hp1 hoM HLL
  go_wp2_with fail
  refine (pick_any _ _ 12 _ _ (by omega) (by omega) h6).mono ?_
  rintro e w7 ⟨y, rfl, hp2, hp3, h7, hg7, -⟩
  have O7 := Lib.hid (O6.out.chg hg7 hlt2)
  have OX7 := Lib.hid (OX.out.chg hg7 hlt4)
  have hA7 := hA6.trans ((Chg.of hg7 (Nat.le_refl _)).below (by omega))
  clear hg7 hA6 h6 O6 OX hp3 hcO
  by_cases y0 : y = 0
  · have b0 : (y == 0) = true := beq_iff_eq.2 y0
    clear y0
    go_wp2_with fail
    refine (someParts_grown _ _ _ _ (by omega) h7).mono ?_
    rintro e w8 ⟨a8, c8, M8, rfl, o8, s8, -, hg8⟩
    have O8 := Lib.hid (O7.out.chg hg8 hlt2)
    have hA8 := hA7.trans ((Chg.of hg8 (Nat.le_refl _)).below (by have := hA7.size; omega))
    have hM8 := s8.1
    go_wp2_with fail
    go_ret2
    exact ⟨a8, c8, M8, a2, c2, M2, rfl, o8.rd, O8.out.rd.more O8.out.le, hM8, by omega, hA8⟩
  · have b0 : (y == 0) = false := beq_eq_false_iff_ne.2 y0
    clear y0
    go_wp2_with fail
    go_ret2
    exact ⟨aM, cM, X, a2, c2, M2, rfl, OX7.out.rd.more OX7.out.le, O7.out.rd.more O7.out.le, hM40, by omega, hA7⟩
end Go.Proofs.Ytbbbfaollcklkaa
