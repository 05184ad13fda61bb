/-
  Walks: the draws of marked parts, and the laws' comparison of marked parts. Words for lists of lists: readable (RdLL), the call's own (OwnLL). Walks: the laws' own helpers on lists of lists: compared (eqIntSS, equalLists). Mathematics: all parts with a sum, none greater than a number, the greater first. Walks: all parts listed (the model's list). Walks: all parts listed (the model's list), whole. Walks: the model's kind at three names, its list of the parts of a kind. Walks: the draws of two parts.
-/
import Derived.Test.YtbbbfaollcklkaaZp1
import Derived.Test.YtbbbfaollcklkaaZp2
import Derived.Test.YtbbbfaollcklkaaZp3
import Derived.Test.YtbbbfaollcklkaaZp4
import Derived.Test.YtbbbfaollcklkaaZp5
import Derived.Test.YtbbbfaollcklkaaZp6
import Derived.Test.YtbbbfaollcklkaaZp7
import Derived.Test.YtbbbfaollcklkaaZp8
import Derived.Test.YtbbbfaollcklkaaZp9
import Derived.Test.YtbbbfaollcklkaaZp10
import Derived.Test.YtbbbfaollcklkaaZp11
import Derived.Test.YtbbbfaollcklkaaZp12
import Derived.Test.YtbbbfaollcklkaaZr1
import Derived.Test.YtbbbfaollcklkaaZr2
import Derived.BigQuiet
import Derived.Deep.RegionHeld3
namespace Go.Proofs.Ytbbbfaollcklkaa
open Go.RowKit NP
set_option maxRecDepth 100000
set_option linter.unusedVariables false
set_option linter.unusedSimpArgs false
set_option maxHeartbeats 1600000 in
theorem DrawTurnMarked_any (a : Option Addr) (c B : Nat) (bs : List Int) (w : World) (h : Rd w B a (bs.map (Value.int .u8))) (hB : B ≤ w.heap.size) (hb : ∀ n ∈ bs, (Lit.int .u8 n).wf = true) (hl : bs.length ≤ 1048576) (hc : bs.length ≤ c) :
    Calls Try.prog 35 #[.slice a bs.length c] w fun e w' => ∃ L T a1 a2 c1 c2, e = .returned (.agg #[.slice a1 L.length c1, .slice a2 T.length c2]) ∧ (Rd w' w'.heap.size a1 (ints L) ∧ Rd w' w'.heap.size a2 (bls T)) ∧ L.length ≤ 40 ∧ T.length ≤ 17 ∧ Below w.heap.size w w' := by
  have hmu := Try.underlying28
  have hi2 : (Try.prog.info? 28).map (·.size) = some 2 := T_mkL
  have hA0 : Below w.heap.size w (w.alloc (.cells #[.slice none 0 0, .slice none 0 0] 28)) := (Below.refl _ _).alloc (Nat.le_refl _) _
  have hr0 := Blk.new w 28 #[.slice none 0 0, .slice none 0 0]
  have hz0 : (w.alloc (.cells #[.slice none 0 0, .slice none 0 0] 28)).heap.size = w.heap.size + 1 := by simp
  obtain ⟨W, hW⟩ : ∃ W, (w.alloc (.cells #[.slice none 0 0, .slice none 0 0] 28)) = W := ⟨_, rfl⟩
  rw [hW] at hA0 hr0 hz0
  have h0 := (h.more hB).below hA0
  go_enter Try.func35, Try.ntmps35
  go_wp2_with fail
  refine (newReader_any _ _ w.heap.size bs _ h0 (by omega) hb hl hc).mono ?_
  rintro e w1 ⟨rfl, h1, hb1, -⟩
  rw [hz0] at h1 hb1
  have hr1 := hr0.below hb1 (by omega)
  have hz1 := hb1.size
  go_wp2_with fail
  refine (someMarked_loop _ 0 _ _ (by omega) h1).mono ?_
  rintro e w2 ⟨L, T, a1, a2, c1, c2, rfl, ⟨o1, o2⟩, hl1, hl2, hb2⟩
  have hr2 := hr1.below hb2 (by omega)
  have hz2 := hb2.size
  have hbf := hA0.trans ((hb1.trans hb2).mono (by omega))
  have O1 := Lib.hid o1
  have O2 := Lib.hid o2
  have HBF := Lib.hid hbf
  clear h h0 h1 hb hA0 hr0 hr1 hb1 hb2 o1 o2 hbf hB hl hc
  go_wp2_with (refine wpList_store_row rfl 28 (.tmp 2) (.tmp 5) rfl w.heap.size rfl #[.slice a1 L.length c1, .slice a2 T.length c2] rfl 28 _ hr2 hi2 rfl (by simp [Value.oneCell']) ?_)
  refine bodyPost_ret (results_cell_row rfl _ _ w.heap.size 28 #[.slice a1 L.length c1, .slice a2 T.length c2] (0, 0) _ rfl hr2.row hmu rfl hi2) rfl ?_
  have e := fin_marked (vs := #[.slice a1 L.length c1, .slice a2 T.length c2]) O1.out O2.out (B := w.heap.size) (by omega) (by omega)
  exact ⟨L, T, a1, a2, c1, c2, rfl, ⟨e.1.rd, e.2.rd⟩, hl1, hl2, below_setRow' HBF.out (Nat.le_refl _) _⟩
set_option maxHeartbeats 1600000 in
theorem DrawValidMarked_any (a : Option Addr) (c B : Nat) (bs : List Int) (w : World) (h : Rd w B a (bs.map (Value.int .u8))) (hB : B ≤ w.heap.size) (hb : ∀ n ∈ bs, (Lit.int .u8 n).wf = true) (hl : bs.length ≤ 1048576) (hc : bs.length ≤ c) :
    Calls Try.prog 16 #[.slice a bs.length c] w fun e w' => ∃ L T a1 a2 c1 c2, e = .returned (.agg #[.slice a1 L.length c1, .slice a2 T.length c2]) ∧ (Rd w' w'.heap.size a1 (ints L) ∧ Rd w' w'.heap.size a2 (bls T)) ∧ L.length ≤ 40 ∧ T.length ≤ 17 ∧ Below w.heap.size w w' := by
  have hmu := Try.underlying28
  have hi2 : (Try.prog.info? 28).map (·.size) = some 2 := T_mkL
  have hA0 : Below w.heap.size w (w.alloc (.cells #[.slice none 0 0, .slice none 0 0] 28)) := (Below.refl _ _).alloc (Nat.le_refl _) _
  have hr0 := Blk.new w 28 #[.slice none 0 0, .slice none 0 0]
  have hz0 : (w.alloc (.cells #[.slice none 0 0, .slice none 0 0] 28)).heap.size = w.heap.size + 1 := by simp
  obtain ⟨W, hW⟩ : ∃ W, (w.alloc (.cells #[.slice none 0 0, .slice none 0 0] 28)) = W := ⟨_, rfl⟩
  rw [hW] at hA0 hr0 hz0
  have h0 := (h.more hB).below hA0
  go_enter Try.func16, Try.ntmps16
  go_wp2_with fail
  refine (newReader_any _ _ w.heap.size bs _ h0 (by omega) hb hl hc).mono ?_
  rintro e w1 ⟨rfl, h1, hb1, -⟩
  rw [hz0] at h1 hb1
  have hr1 := hr0.below hb1 (by omega)
  have hz1 := hb1.size
  go_wp2_with fail
  refine (someMarked_loop _ 0 _ _ (by omega) h1).mono ?_
  rintro e w2 ⟨L, T, a1, a2, c1, c2, rfl, ⟨o1, o2⟩, hl1, hl2, hb2⟩
  have hr2 := hr1.below hb2 (by omega)
  have hz2 := hb2.size
  have hbf := hA0.trans ((hb1.trans hb2).mono (by omega))
  have O1 := Lib.hid o1
  have O2 := Lib.hid o2
  have HBF := Lib.hid hbf
  clear h h0 h1 hb hA0 hr0 hr1 hb1 hb2 o1 o2 hbf hB hl hc
  go_wp2_with (refine wpList_store_row rfl 28 (.tmp 2) (.tmp 5) rfl w.heap.size rfl #[.slice a1 L.length c1, .slice a2 T.length c2] rfl 28 _ hr2 hi2 rfl (by simp [Value.oneCell']) ?_)
  refine bodyPost_ret (results_cell_row rfl _ _ w.heap.size 28 #[.slice a1 L.length c1, .slice a2 T.length c2] (0, 0) _ rfl hr2.row hmu rfl hi2) rfl ?_
  have e := fin_marked (vs := #[.slice a1 L.length c1, .slice a2 T.length c2]) O1.out O2.out (B := w.heap.size) (by omega) (by omega)
  exact ⟨L, T, a1, a2, c1, c2, rfl, ⟨e.1.rd, e.2.rd⟩, hl1, hl2, below_setRow' HBF.out (Nat.le_refl _) _⟩
set_option maxHeartbeats 1600000 in
theorem DrawSplitMarked_any (a : Option Addr) (c B : Nat) (bs : List Int) (w : World) (h : Rd w B a (bs.map (Value.int .u8))) (hB : B ≤ w.heap.size) (hb : ∀ n ∈ bs, (Lit.int .u8 n).wf = true) (hl : bs.length ≤ 1048576) (hc : bs.length ≤ c) :
    Calls Try.prog 25 #[.slice a bs.length c] w fun e w' => ∃ L T a1 a2 c1 c2, e = .returned (.agg #[.slice a1 L.length c1, .slice a2 T.length c2]) ∧ (Rd w' w'.heap.size a1 (ints L) ∧ Rd w' w'.heap.size a2 (bls T)) ∧ L.length ≤ 40 ∧ T.length ≤ 17 ∧ Below w.heap.size w w' := by
  have hmu := Try.underlying28
  have hi2 : (Try.prog.info? 28).map (·.size) = some 2 := T_mkL
  have hA0 : Below w.heap.size w (w.alloc (.cells #[.slice none 0 0, .slice none 0 0] 28)) := (Below.refl _ _).alloc (Nat.le_refl _) _
  have hr0 := Blk.new w 28 #[.slice none 0 0, .slice none 0 0]
  have hz0 : (w.alloc (.cells #[.slice none 0 0, .slice none 0 0] 28)).heap.size = w.heap.size + 1 := by simp
  obtain ⟨W, hW⟩ : ∃ W, (w.alloc (.cells #[.slice none 0 0, .slice none 0 0] 28)) = W := ⟨_, rfl⟩
  rw [hW] at hA0 hr0 hz0
  have h0 := (h.more hB).below hA0
  go_enter Try.func25, Try.ntmps25
  go_wp2_with fail
  refine (newReader_any _ _ w.heap.size bs _ h0 (by omega) hb hl hc).mono ?_
  rintro e w1 ⟨rfl, h1, hb1, -⟩
  rw [hz0] at h1 hb1
  have hr1 := hr0.below hb1 (by omega)
  have hz1 := hb1.size
  go_wp2_with fail
  refine (someMarked_loop _ 0 _ _ (by omega) h1).mono ?_
  rintro e w2 ⟨L, T, a1, a2, c1, c2, rfl, ⟨o1, o2⟩, hl1, hl2, hb2⟩
  have hr2 := hr1.below hb2 (by omega)
  have hz2 := hb2.size
  have hbf := hA0.trans ((hb1.trans hb2).mono (by omega))
  have O1 := Lib.hid o1
  have O2 := Lib.hid o2
  have HBF := Lib.hid hbf
  clear h h0 h1 hb hA0 hr0 hr1 hb1 hb2 o1 o2 hbf hB hl hc
  go_wp2_with (refine wpList_store_row rfl 28 (.tmp 2) (.tmp 5) rfl w.heap.size rfl #[.slice a1 L.length c1, .slice a2 T.length c2] rfl 28 _ hr2 hi2 rfl (by simp [Value.oneCell']) ?_)
  refine bodyPost_ret (results_cell_row rfl _ _ w.heap.size 28 #[.slice a1 L.length c1, .slice a2 T.length c2] (0, 0) _ rfl hr2.row hmu rfl hi2) rfl ?_
  have e := fin_marked (vs := #[.slice a1 L.length c1, .slice a2 T.length c2]) O1.out O2.out (B := w.heap.size) (by omega) (by omega)
  exact ⟨L, T, a1, a2, c1, c2, rfl, ⟨e.1.rd, e.2.rd⟩, hl1, hl2, below_setRow' HBF.out (Nat.le_refl _) _⟩
set_option maxHeartbeats 1000000 in
theorem equalMarked_same (a1 a2 b1 b2 : Option Addr) (ca1 ca2 cb1 cb2 A1 A2 B1 B2 : Nat) (L : List Int) (bs : List Bool) (w : World) (h1 : Rd w A1 a1 (ints L)) (h2 : Rd w A2 a2 (bls bs)) (k1 : Rd w B1 b1 (ints L)) (k2 : Rd w B2 b2 (bls bs)) (hA1 : A1 ≤ w.heap.size) (hA2 : A2 ≤ w.heap.size) (hB1 : B1 ≤ w.heap.size) (hB2 : B2 ≤ w.heap.size) (hl1 : L.length ≤ 4611686018427387904) (hl2 : bs.length ≤ 4611686018427387904) :
    Calls Try.prog 19 #[.agg #[.slice a1 L.length ca1, .slice a2 bs.length ca2], .agg #[.slice b1 L.length cb1, .slice b2 bs.length cb2]] w fun e w' => e = .returned (.bool true) ∧ Below w.heap.size w w' := by
  have hA0 : Below w.heap.size w ((w.alloc (.cells #[.slice a1 L.length ca1, .slice a2 bs.length ca2] 28)).alloc (.cells #[.slice b1 L.length cb1, .slice b2 bs.length cb2] 28)) := ((Below.refl _ _).alloc (Nat.le_refl _) _).alloc (by simp) _
  have hx0 := (Blk.new w 28 #[.slice a1 L.length ca1, .slice a2 bs.length ca2]).alloc (.cells #[.slice b1 L.length cb1, .slice b2 bs.length cb2] 28)
  have hy0 := Blk.new (w.alloc (.cells #[.slice a1 L.length ca1, .slice a2 bs.length ca2] 28)) 28 #[.slice b1 L.length cb1, .slice b2 bs.length cb2]
  rw [World.size_alloc] at hy0
  obtain ⟨W, hW⟩ : ∃ W, (w.alloc (.cells #[.slice a1 L.length ca1, .slice a2 bs.length ca2] 28)).alloc (.cells #[.slice b1 L.length cb1, .slice b2 bs.length cb2] 28) = W := ⟨_, rfl⟩
  rw [hW] at hA0 hx0 hy0
  have m1 : W.cell? ⟨w.heap.size, 0, none⟩ = some (.slice a1 L.length ca1) := hx0.cell 0
  have m2 : W.cell? ⟨w.heap.size, 1, none⟩ = some (.slice a2 bs.length ca2) := hx0.cell 1
  have m3 : W.cell? ⟨w.heap.size + 1, 0, none⟩ = some (.slice b1 L.length cb1) := hy0.cell 0
  have m4 : W.cell? ⟨w.heap.size + 1, 1, none⟩ = some (.slice b2 bs.length cb2) := hy0.cell 1
  have H1 := Lib.hid ((h1.more hA1).below hA0)
  have K1 := Lib.hid ((k1.more hB1).below hA0)
  have H2 := Lib.hid ((h2.more hA2).below hA0)
  have K2 := Lib.hid ((k2.more hB2).below hA0)
  have hne : ((bs.length : Int) != (bs.length : Int)) = false := by simp
  clear h1 h2 k1 k2 hx0 hy0
  go_enter Try.func19, Try.ntmps19
  go_wp2_with (go_at_call 26; refine (equalInts_same a1 b1 ca1 cb1 _ _ L W H1.out K1.out hl1).mono ?_; rintro e w1 ⟨rfl, hd1⟩; obtain ⟨n9, rfl⟩ := hd1)
  go_loopw [5] (fun i wr => ∃ k : Nat, k ≤ bs.length ∧ i = .int .i64 k ∧ Dr W wr) (fun i _ => bs.length - (intOf i).toNat)
  case atStart => exact ⟨0, Nat.zero_le _, rfl, Dr.n _ _⟩
  case round =>
    obtain ⟨k, hk, rfl, hdr⟩ := hrel
    have q2 : wr.cell? ⟨w.heap.size, 1, none⟩ = some (.slice a2 bs.length ca2) := by obtain ⟨n, rfl⟩ := hdr; exact m2
    have q4 : wr.cell? ⟨w.heap.size + 1, 1, none⟩ = some (.slice b2 bs.length cb2) := by obtain ⟨n, rfl⟩ := hdr; exact m4
    clear m1 m3 hne
    by_cases hlt : k < bs.length
    · obtain ⟨x1, o1, rfl, -, hc1⟩ := boolRd (H2.out.dr hdr) hlt
      obtain ⟨x2, o2, rfl, -, hc2⟩ := boolRd (K2.out.dr hdr) hlt
      have hlt' : (k : Int) < (bs.length : Int) := by omega
      generalize bs[k] = x at *
      have hx' : (x != x) = false := by simp
      go_wp2_with fail
      go_quiet (fail)
      go_wp2_with fail
      go_roundw
      case rel => exact ⟨k + 1, by omega, by go_num, hdr.drewN _⟩
      case measure => simp [intOf]; omega
    · obtain rfl : k = bs.length := by omega
      go_wp2_with fail
      go_ret
      exact ⟨rfl, hA0.trans (hdr.below _)⟩
end Go.Proofs.Ytbbbfaollcklkaa
namespace Go.Proofs.Ytbbbfaollcklkaa
open Go.RowKit
set_option maxRecDepth 8000

/-- a value reads as a list of numbers -/
def Inn (w : World) (B : Nat) (v : Value) (L : List Int) : Prop := ∃ a c, v = .slice a L.length c ∧ Rd w B a (ints L) ∧ L.length ≤ c
def RdLL (w : World) (B : Nat) (a : Option Addr) (LL : List (List Int)) : Prop :=
  ∃ vs, Rd w B a vs ∧ vs.length = LL.length ∧ ∀ (k : Nat) v L, vs[k]? = some v → LL[k]? = some L → Inn w B v L

theorem Inn.below {w w' : World} {B : Nat} {v : Value} {L : List Int} (h : Inn w B v L) (hb : Below B w w') : Inn w' B v L := by
  obtain ⟨a, c, rfl, h1, h2⟩ := h
  exact ⟨a, c, rfl, h1.below hb, h2⟩
theorem Inn.more {w : World} {B B' : Nat} {v : Value} {L : List Int} (h : Inn w B v L) (hB : B ≤ B') : Inn w B' v L := by
  obtain ⟨a, c, rfl, h1, h2⟩ := h
  exact ⟨a, c, rfl, h1.more hB, h2⟩
theorem RdLL.below {w w' : World} {B : Nat} {a : Option Addr} {LL : List (List Int)} (h : RdLL w B a LL) (hb : Below B w w') : RdLL w' B a LL := by
  obtain ⟨vs, h1, h2, h3⟩ := h
  exact ⟨vs, h1.below hb, h2, fun k v L hv hL => (h3 k v L hv hL).below hb⟩
theorem RdLL.more {w : World} {B B' : Nat} {a : Option Addr} {LL : List (List Int)} (h : RdLL w B a LL) (hB : B ≤ B') : RdLL w B' a LL := by
  obtain ⟨vs, h1, h2, h3⟩ := h
  exact ⟨vs, h1.more hB, h2, fun k v L hv hL => (h3 k v L hv hL).more hB⟩
theorem RdLL.dr {w w' : World} {B : Nat} {a : Option Addr} {LL : List (List Int)} (h : RdLL w B a LL) (hb : Dr w w') : RdLL w' B a LL := h.below (hb.below B)
/-- the k-th list -/
theorem RdLL.at_ {w : World} {B : Nat} {a : Option Addr} {LL : List (List Int)} (h : RdLL w B a LL) {k : Nat} (hk : k < LL.length) :
    ∃ b o a' c', a = some ⟨b, o, none⟩ ∧ b < B ∧ w.cell? ⟨b, o + k, none⟩ = some (.slice a' LL[k].length c') ∧ Rd w B a' (ints LL[k]) ∧ LL[k].length ≤ c' := by
  obtain ⟨vs, h1, h2, h3⟩ := h
  have hkv : k < vs.length := by omega
  obtain ⟨b, o, rfl, hb, hc⟩ := h1 (by intro e; subst e; simp at hkv)
  obtain ⟨a', c', e, hr, hl⟩ := h3 k vs[k] LL[k] (List.getElem?_eq_getElem hkv) (List.getElem?_eq_getElem hk)
  exact ⟨b, o, a', c', rfl, hb, by rw [hc k vs[k] (List.getElem?_eq_getElem hkv), e], hr, hl⟩

/-- the outer block and each list's block are the call's own, and no two are one -/
structure OwnLL (w : World) (lo hi : Nat) (eo e : TypeId) (v : Value) (vs : List Value) (LL : List (List Int)) : Prop where
  outer : Own w lo hi eo v vs
  len : vs.length = LL.length
  inner : ∀ (k : Nat) u L, vs[k]? = some u → LL[k]? = some L → Own w lo hi e u (ints L)
  apartO : ∀ (k : Nat) u g, vs[k]? = some u → u.ownBlock = some g → v.ownBlock ≠ some g
  apart : ∀ (j k : Nat) u u' g, vs[j]? = some u → vs[k]? = some u' → u.ownBlock = some g → u'.ownBlock = some g → j = k

theorem OwnLL.below {w w' : World} {lo hi : Nat} {eo e : TypeId} {v : Value} {vs : List Value} {LL : List (List Int)} (h : OwnLL w lo hi eo e v vs LL) (hb : Below hi w w') : OwnLL w' lo hi eo e v vs LL :=
  ⟨h.outer.below hb, h.len, fun k u L hu hL => (h.inner k u L hu hL).below hb, h.apartO, h.apart⟩
theorem OwnLL.lower {w : World} {lo lo' hi : Nat} {eo e : TypeId} {v : Value} {vs : List Value} {LL : List (List Int)} (h : OwnLL w lo hi eo e v vs LL) (hl : lo' ≤ lo) : OwnLL w lo' hi eo e v vs LL :=
  ⟨h.outer.lower hl, h.len, fun k u L hu hL => (h.inner k u L hu hL).lower hl, h.apartO, h.apart⟩
theorem OwnLL.more {w : World} {lo hi : Nat} {eo e : TypeId} {v : Value} {vs : List Value} {LL : List (List Int)} (h : OwnLL w lo hi eo e v vs LL) : OwnLL w lo w.heap.size eo e v vs LL :=
  ⟨h.outer.more, h.len, fun k u L hu hL => (h.inner k u L hu hL).more, h.apartO, h.apart⟩
theorem OwnLL.le {w : World} {lo hi : Nat} {eo e : TypeId} {v : Value} {vs : List Value} {LL : List (List Int)} (h : OwnLL w lo hi eo e v vs LL) : hi ≤ w.heap.size := h.outer.le
theorem OwnLL.form {w : World} {lo hi : Nat} {eo e : TypeId} {v : Value} {vs : List Value} {LL : List (List Int)} (h : OwnLL w lo hi eo e v vs LL) : ∃ a c, v = .slice a LL.length c := by
  obtain ⟨a, c, hv⟩ := h.outer.form
  exact ⟨a, c, by rw [← h.len]; exact hv⟩
theorem OwnLL.empty (w : World) (eo e : TypeId) : OwnLL (w.alloc (.cells #[] eo)) w.heap.size (w.heap.size + 1) eo e (.slice (some ⟨w.heap.size, 0, none⟩) 0 0) [] [] :=
  ⟨Own.empty w eo, rfl, fun k u L hu => by simp at hu, fun k u g hu => by simp at hu, fun j k u u' g hu => by simp at hu⟩
theorem OwnLL.nil (w : World) (lo : Nat) (eo e : TypeId) : OwnLL w lo w.heap.size eo e (.slice none 0 0) [] [] :=
  ⟨Own.nil w lo eo, rfl, fun k u L hu => by simp at hu, fun k u g hu => by simp at hu, fun j k u u' g hu => by simp at hu⟩
theorem OwnLL.rd {w : World} {lo hi : Nat} {eo e : TypeId} {a : Option Addr} {n c : Nat} {vs : List Value} {LL : List (List Int)} (h : OwnLL w lo hi eo e (.slice a n c) vs LL) : RdLL w hi a LL := by
  refine ⟨vs, h.outer.rd, h.len, fun k u L hu hL => ?_⟩
  have hi' := h.inner k u L hu hL
  obtain ⟨a', c', rfl⟩ := hi'.form
  refine ⟨a', c', by rw [List.length_map], hi'.rd, ?_⟩
  rcases Nat.eq_zero_or_pos L.length with h0 | h0
  · omega
  · obtain ⟨g, c2, e2, hc⟩ := hi'.formN (by simpa using h0)
    injection e2 with _ _ e3
    rw [List.length_map] at hc
    omega
/-- one list more, its block beyond all that there was: the outer list anew or in its place -/
theorem OwnLL.push {w w' : World} {lo hi hi' : Nat} {eo e : TypeId} {v v' u : Value} {vs : List Value} {LL : List (List Int)} {L : List Int} (h : OwnLL w lo hi eo e v vs LL)
    (ho : Own w' lo hi' eo v' (vs ++ [u])) (hin : ∀ (k : Nat) u L, vs[k]? = some u → LL[k]? = some L → Own w' lo hi' e u (ints L)) (hu : Own w' lo hi' e u (ints L))
    (h1 : ∀ g, u.ownBlock = some g → v'.ownBlock ≠ some g) (h2 : ∀ (k : Nat) x g, vs[k]? = some x → x.ownBlock = some g → v'.ownBlock ≠ some g ∧ u.ownBlock ≠ some g) : OwnLL w' lo hi' eo e v' (vs ++ [u]) (LL ++ [L]) := by
  have hl := h.len
  refine ⟨ho, by simp [hl], fun k x M hx hM => ?_, fun k x g hx hg => ?_, fun j k x y g hx hy hgx hgy => ?_⟩
  · by_cases hk : k < vs.length
    · rw [List.getElem?_append_left hk] at hx
      rw [List.getElem?_append_left (by omega)] at hM
      exact hin k x M hx hM
    · rw [List.getElem?_append_right (by omega)] at hx
      rw [List.getElem?_append_right (by omega)] at hM
      have e0 : k - vs.length = 0 := by
        rcases Nat.eq_zero_or_pos (k - vs.length) with z | z
        · exact z
        · rw [List.getElem?_eq_none (by simp only [List.length_singleton]; omega)] at hx; cases hx
      rw [e0] at hx
      rw [← hl, e0] at hM
      cases hx; cases hM
      exact hu
  · by_cases hk : k < vs.length
    · rw [List.getElem?_append_left hk] at hx
      exact (h2 k x g hx hg).1
    · rw [List.getElem?_append_right (by omega)] at hx
      have e0 : k - vs.length = 0 := by
        rcases Nat.eq_zero_or_pos (k - vs.length) with z | z
        · exact z
        · rw [List.getElem?_eq_none (by simp only [List.length_singleton]; omega)] at hx; cases hx
      rw [e0] at hx
      cases hx
      exact h1 g hg
  · have last : ∀ i, ¬ i < vs.length → ∀ z, (vs ++ [u])[i]? = some z → i = vs.length ∧ z = u := fun i hi z hz => by
      rw [List.getElem?_append_right (by omega)] at hz
      have e0 : i - vs.length = 0 := by
        rcases Nat.eq_zero_or_pos (i - vs.length) with q | q
        · exact q
        · rw [List.getElem?_eq_none (by simp only [List.length_singleton]; omega)] at hz; cases hz
      rw [e0] at hz
      cases hz
      exact ⟨by omega, rfl⟩
    by_cases hj : j < vs.length
    · rw [List.getElem?_append_left hj] at hx
      by_cases hk : k < vs.length
      · rw [List.getElem?_append_left hk] at hy
        exact h.apart j k x y g hx hy hgx hgy
      · obtain ⟨_, rfl⟩ := last k hk y hy
        exact absurd hgy (h2 j x g hx hgx).2
    · obtain ⟨hj2, rfl⟩ := last j hj x hx
      by_cases hk : k < vs.length
      · rw [List.getElem?_append_left hk] at hy
        exact absurd hgx (h2 k y g hy hgy).2
      · obtain ⟨hk2, _⟩ := last k hk y hy
        omega
/-- one list more by append: its block was made behind the outer list's -/
theorem OwnLL.append {w w' : World} {lo hi lou hiu : Nat} {eo e : TypeId} {v v' u : Value} {vs : List Value} {LL : List (List Int)} {L : List Int} (h : OwnLL w lo hi eo e v vs LL)
    (hu : Own w lou hiu e u (ints L)) (hlou : hi ≤ lou) (hlo : lo ≤ lou) (ho : Own w' lo w'.heap.size eo v' (vs ++ [u])) (hg : w.grownBy w' v.ownBlock) (hat : v'.ownBlock = v.ownBlock ∨ v'.ownBlock = some w.heap.size) :
    OwnLL w' lo w'.heap.size eo e v' (vs ++ [u]) (LL ++ [L]) := by
  have hL : ∀ (k : Nat) x g, vs[k]? = some x → x.ownBlock = some g → g < hi := fun k x g hx hgx => by
    have hkv := (List.getElem?_eq_some_iff.1 hx).1
    have hkl : k < LL.length := by rw [← h.len]; exact hkv
    exact (h.inner k x LL[k] hx (List.getElem?_eq_getElem hkl)).lt g hgx
  refine h.push ho (fun k x M hx hM => ?_) ?_ (fun g hgu hv => ?_) (fun k x g hx hgx => ⟨fun hv => ?_, fun hgu => ?_⟩)
  · have hk := h.inner k x M hx hM
    refine (hk.grown hg ?_).more
    cases hb : x.ownBlock with
    | none => exact .inl rfl
    | some g => exact .inr fun e => h.apartO k x g hx hb e.symm
  · refine ((hu.grown hg ?_).more).lower hlo
    cases hb : u.ownBlock with
    | none => exact .inl rfl
    | some g => exact .inr fun e => by have h1 := hu.base g hb; have h2 := h.outer.lt g e.symm; omega
  · have h1 := hu.base g hgu
    rcases hat with e | e
    · have h2 := h.outer.lt g (e ▸ hv); omega
    · rw [e] at hv; cases hv; have h2 := hu.lt _ hgu; have h3 := hu.le; omega
  · rcases hat with e | e
    · exact h.apartO k x g hx hgx (e ▸ hv)
    · rw [e] at hv; cases hv; have h2 := hL k x _ hx hgx; have h3 := h.le; omega
  · have h1 := hu.base g hgu; have h2 := hL k x g hx hgx; omega
/-- the k-th list, its block and its place -/
theorem OwnLL.at_ {w : World} {lo hi : Nat} {eo e : TypeId} {a : Option Addr} {n c : Nat} {vs : List Value} {LL : List (List Int)} (h : OwnLL w lo hi eo e (.slice a n c) vs LL) {k : Nat} (hk : k < LL.length) :
    ∃ g a' c', a = some ⟨g, 0, none⟩ ∧ lo ≤ g ∧ g < hi ∧ w.cell? ⟨g, k, none⟩ = some (.slice a' LL[k].length c') ∧ Own w lo hi e (.slice a' LL[k].length c') (ints LL[k]) ∧ vs[k]? = some (.slice a' LL[k].length c') := by
  have hkv : k < vs.length := by rw [h.len]; exact hk
  obtain ⟨g, c1, e1, h1, h2, h3, _⟩ := h.outer.at_ hkv
  injection e1 with e1 _ _
  have hi' := h.inner k vs[k] LL[k] (List.getElem?_eq_getElem hkv) (List.getElem?_eq_getElem hk)
  obtain ⟨a', c', e2⟩ := hi'.form
  rw [List.length_map] at e2
  exact ⟨g, a', c', e1, h1, h2, by rw [h3, e2], e2 ▸ hi', by rw [List.getElem?_eq_getElem hkv, e2]⟩
/-- one list written anew in its place -/
theorem OwnLL.setIn {w w' : World} {lo hi : Nat} {eo e : TypeId} {v u : Value} {vs : List Value} {LL : List (List Int)} {L : List Int} (h : OwnLL w lo hi eo e v vs LL) {k : Nat} (hk : vs[k]? = some u)
    (hg : w.grownBy w' u.ownBlock) (hu : Own w' lo hi e u (ints L)) : OwnLL w' lo hi eo e v vs (LL.set k L) := by
  have hv : v.ownBlock = none ∨ v.ownBlock ≠ u.ownBlock := by
    cases hb : v.ownBlock with
    | none => exact .inl rfl
    | some g => exact .inr fun e => h.apartO k u g hk e.symm hb
  refine ⟨h.outer.grown hg hv, by rw [List.length_set]; exact h.len, fun j x M hx hM => ?_, h.apartO, h.apart⟩
  rw [List.getElem?_set] at hM
  by_cases hj : k = j
  · subst hj
    rw [if_pos rfl] at hM
    split at hM
    · cases hM
      obtain rfl : x = u := by rw [hk] at hx; cases hx; rfl
      exact hu
    · cases hM
  · rw [if_neg hj] at hM
    refine (h.inner j x M hx hM).grown hg ?_
    cases hb : x.ownBlock with
    | none => exact .inl rfl
    | some g => exact .inr fun e => hj (h.apart k j u x g hk hx e.symm hb)
/-- the marks of lists, one behind another -/
def marksLL (m : Int) : List (List Int) → List (List Int)
  | [] => []
  | L :: R => ((List.range L.length).map fun (j : Nat) => m + (j : Int)) :: marksLL (m + (L.length : Int)) R
def cntLL (LL : List (List Int)) : Nat := (LL.map List.length).sum
theorem cntLL_append (A : List (List Int)) (L : List Int) : cntLL (A ++ [L]) = cntLL A + L.length := by simp [cntLL]
theorem marksLL_append (m : Int) (A : List (List Int)) (L : List Int) : marksLL m (A ++ [L]) = marksLL m A ++ [(List.range L.length).map fun (j : Nat) => (m + (cntLL A : Int)) + (j : Int)] := by
  induction A generalizing m with
  | nil => simp [marksLL, cntLL]
  | cons x R ih =>
    have e : m + (x.length : Int) + (cntLL R : Int) = m + (cntLL (x :: R) : Int) := by simp [cntLL]; omega
    show _ :: marksLL (m + (x.length : Int)) (R ++ [L]) = _
    rw [ih, e]
    rfl
theorem marksLL_len (m : Int) (A : List (List Int)) : (marksLL m A).length = A.length := by
  induction A generalizing m with
  | nil => rfl
  | cons x R ih => simp [marksLL, ih]
theorem cntLL_take (LL : List (List Int)) (k : Nat) : cntLL (LL.take k) ≤ cntLL LL := by
  induction LL generalizing k with
  | nil => simp [cntLL]
  | cons x R ih =>
    cases k with
    | zero => simp [cntLL]
    | succ k => have := ih k; simp [cntLL] at this ⊢; omega
/-- one list more is marked -/
theorem marksLL_set (m : Int) {LL : List (List Int)} {k : Nat} (hk : k < LL.length) :
    (marksLL m (LL.take k) ++ LL.drop k).set k ((List.range LL[k].length).map fun (j : Nat) => (m + (cntLL (LL.take k) : Int)) + (j : Int)) = marksLL m (LL.take (k + 1)) ++ LL.drop (k + 1) := by
  have e1 : (marksLL m (LL.take k)).length = k := by rw [marksLL_len, List.length_take]; omega
  rw [List.drop_eq_getElem_cons hk, List.set_append_right _ _ (by omega), e1, Nat.sub_self, List.set_cons_zero, List.take_succ_eq_append_getElem hk, marksLL_append]
  simp
theorem marksLL_get (m : Int) (LL : List (List Int)) (k : Nat) (hk : k < LL.length) (hh : k < (marksLL m LL).length) :
    (marksLL m LL)[k] = (List.range LL[k].length).map fun (j : Nat) => (m + (cntLL (LL.take k) : Int)) + (j : Int) := by
  induction LL generalizing m k with
  | nil => simp at hk
  | cons x R ih =>
    cases k with
    | zero => simp [marksLL, cntLL]
    | succ k =>
      have h2 : k < (marksLL (m + (x.length : Int)) R).length := by rw [marksLL_len]; simpa using hk
      have := ih (m + (x.length : Int)) k (by simpa using hk) h2
      have e : m + (x.length : Int) + (cntLL (R.take k) : Int) = m + (cntLL ((x :: R).take (k + 1)) : Int) := by simp [cntLL]; omega
      rw [e] at this
      exact this
theorem OwnLL.lt {w : World} {lo hi : Nat} {eo e : TypeId} {v : Value} {vs : List Value} {LL : List (List Int)} (h : OwnLL w lo hi eo e v vs LL) {k : Nat} {x : Value} {g : Nat} (hx : vs[k]? = some x) (hg : x.ownBlock = some g) : lo ≤ g ∧ g < hi := by
  have hkv := (List.getElem?_eq_some_iff.1 hx).1
  have hkl : k < LL.length := by rw [← h.len]; exact hkv
  have hi' := h.inner k x LL[k] hx (List.getElem?_eq_getElem hkl)
  exact ⟨hi'.base g hg, hi'.lt g hg⟩
/-- many lists more by append: theirs were made behind the outer list's -/
theorem OwnLL.appendAll {w w' : World} {lo hi lox hix : Nat} {eo e : TypeId} {v v' vx : Value} {vs vsx : List Value} {LL LLx : List (List Int)} (h : OwnLL w lo hi eo e v vs LL)
    (hx : OwnLL w lox hix eo e vx vsx LLx) (hd : hi ≤ lox) (hlo : lo ≤ lox) (ho : Own w' lo w'.heap.size eo v' (vs ++ vsx)) (hg : w.grownBy w' v.ownBlock) (hat : v'.ownBlock = v.ownBlock ∨ v'.ownBlock = some w.heap.size) :
    OwnLL w' lo w'.heap.size eo e v' (vs ++ vsx) (LL ++ LLx) := by
  have hl := h.len
  have L1 : ∀ {k : Nat} {x : Value} {g : Nat}, vs[k]? = some x → x.ownBlock = some g → lo ≤ g ∧ g < hi := fun a b => h.lt a b
  have L2 : ∀ {k : Nat} {x : Value} {g : Nat}, vsx[k]? = some x → x.ownBlock = some g → lox ≤ g ∧ g < hix := fun a b => hx.lt a b
  have hle := h.le
  have hlx := hx.le
  refine ⟨ho, by simp [hl, hx.len], fun k x M hk hM => ?_, fun k x g hk hgx hv => ?_, fun j k x y g hj hk hgx hgy => ?_⟩
  · by_cases hkv : k < vs.length
    · rw [List.getElem?_append_left hkv] at hk
      rw [List.getElem?_append_left (by omega)] at hM
      refine ((h.inner k x M hk hM).grown hg ?_).more
      cases hb : x.ownBlock with
      | none => exact .inl rfl
      | some g => exact .inr fun e => h.apartO k x g hk hb e.symm
    · rw [List.getElem?_append_right (by omega)] at hk
      rw [List.getElem?_append_right (by omega), ← hl] at hM
      refine (((hx.inner _ x M hk hM).grown hg ?_).more).lower hlo
      cases hb : x.ownBlock with
      | none => exact .inl rfl
      | some g => exact .inr fun e => by have h1 := L2 hk hb; have h2 := h.outer.lt g e.symm; omega
  · by_cases hkv : k < vs.length
    · rw [List.getElem?_append_left hkv] at hk
      rcases hat with e | e
      · exact h.apartO k x g hk hgx (e ▸ hv)
      · rw [e] at hv; cases hv; have h2 := L1 hk hgx; omega
    · rw [List.getElem?_append_right (by omega)] at hk
      have h2 := L2 hk hgx
      rcases hat with e | e
      · have h1 := h.outer.lt g (e ▸ hv); omega
      · rw [e] at hv; cases hv; omega
  · by_cases hjv : j < vs.length
    · rw [List.getElem?_append_left hjv] at hj
      by_cases hkv : k < vs.length
      · rw [List.getElem?_append_left hkv] at hk
        exact h.apart j k x y g hj hk hgx hgy
      · rw [List.getElem?_append_right (by omega)] at hk
        have h1 := L1 hj hgx; have h2 := L2 hk hgy; omega
    · rw [List.getElem?_append_right (by omega)] at hj
      by_cases hkv : k < vs.length
      · rw [List.getElem?_append_left hkv] at hk
        have h1 := L2 hj hgx; have h2 := L1 hk hgy; omega
      · rw [List.getElem?_append_right (by omega)] at hk
        have := hx.apart _ _ x y g hj hk hgx hgy
        omega
theorem Own.single (w : World) (u : Value) (e : TypeId) : Own (w.alloc (.cells #[u] e)) w.heap.size (w.heap.size + 1) e (.slice (some ⟨w.heap.size, 0, none⟩) 1 1) [u] :=
  ⟨⟨rfl, .inr ⟨w.heap.size, 1, #[u], rfl, Nat.le_refl _, heap_alloc_new w _, Nat.le_refl _, by decide, rfl, rfl⟩⟩, fun g hg => by simp [Value.ownBlock] at hg; omega, by simp⟩
/-- a list of one list -/
theorem OwnLL.single {w : World} {lo hi : Nat} {eo e : TypeId} {u : Value} {L : List Int} (hu : Own w lo hi e u (ints L)) (hlo : lo ≤ w.heap.size) :
    OwnLL (w.alloc (.cells #[u] eo)) lo (w.heap.size + 1) eo e (.slice (some ⟨w.heap.size, 0, none⟩) 1 1) [u] [L] := by
  have hle := hu.le
  have one : ∀ (k : Nat) x, [u][k]? = some x → k = 0 ∧ x = u := fun k x hx => by
    match k, hx with
    | 0, hx => simp at hx; exact ⟨rfl, hx.symm⟩
  refine ⟨(Own.single w u eo).lower hlo, rfl, fun k x M hx hM => ?_, fun k x g hx hg hv => ?_, fun j k x y g hx hy _ _ => ?_⟩
  · obtain ⟨rfl, rfl⟩ := one k x hx
    simp at hM
    subst hM
    have h := hu.alloc (.cells #[x] eo)
    exact ⟨h.row, fun g hg => by have := h.lt g hg; omega, by simp⟩
  · obtain ⟨rfl, rfl⟩ := one k x hx
    have := hu.lt g hg
    simp [Value.ownBlock] at hv
    omega
  · rw [(one j x hx).1, (one k y hy).1]
end Go.Proofs.Ytbbbfaollcklkaa
namespace Go.Proofs.Ytbbbfaollcklkaa
open Go.RowKit NP
set_option maxRecDepth 8000
set_option linter.unusedVariables false
theorem keepD2 {wr wx w' : World} {p q : Addr} {x y : Value} (h1 : wx.cell? p = some x) (h2 : wx.cell? q = some y) (h3 : Dr wr wx) (hd : Dr wx w') : w'.cell? p = some x ∧ w'.cell? q = some y ∧ Dr wr w' := by
  obtain ⟨n, rfl⟩ := hd
  exact ⟨h1, h2, h3.drewN n⟩



end Go.Proofs.Ytbbbfaollcklkaa
namespace Go.Proofs.Ytbbbfaollcklkaa
namespace NP
def allQ : Nat → Nat → Nat → List (List Int)
  | 0, n, _ => if n = 0 then [[]] else []
  | f + 1, n, most => if n = 0 then [[]] else (List.range (min n most)).reverse.flatMap fun i => (allQ f (n - (i + 1)) (i + 1)).map fun R => ((i + 1 : Nat) : Int) :: R
def pieceQ (f n i : Nat) : List (List Int) := (allQ f (n - (i + 1)) (i + 1)).map fun R => ((i + 1 : Nat) : Int) :: R
def upQ (f n top j : Nat) : List (List Int) := ((List.range top).reverse.take j).flatMap (pieceQ f n)
theorem upQ_zero (f n top : Nat) : upQ f n top 0 = [] := by simp [upQ]
theorem upQ_succ (f n top j : Nat) (h : j < top) : upQ f n top (j + 1) = upQ f n top j ++ pieceQ f n (top - 1 - j) := by
  have hl : j < (List.range top).reverse.length := by simpa using h
  unfold upQ
  rw [List.take_succ_eq_append_getElem hl, List.flatMap_append]
  congr 1
  simp
theorem allQ_zero (f most : Nat) : allQ f 0 most = [[]] := by cases f <;> simp [allQ]
theorem allQ_up (f n most : Nat) (h : n ≠ 0) : allQ (f + 1) n most = upQ f n (min n most) (min n most) := by
  have : (allQ (f + 1) n most) = (List.range (min n most)).reverse.flatMap (pieceQ f n) := by
    rw [allQ, if_neg h]; rfl
  rw [this, upQ, List.take_of_length_le (by simp)]
/-- enough fuel is enough -/
theorem allQ_fuel : ∀ (f n most : Nat), n ≤ f → allQ (f + 1) n most = allQ f n most := by
  intro f
  induction f with
  | zero =>
      intro n most h
      obtain rfl : n = 0 := (by omega)
      rw [allQ_zero, allQ_zero]
  | succ f ih =>
    intro n most h
    by_cases h0 : n = 0
    · subst h0; rw [allQ_zero, allQ_zero]
    · rw [allQ_up _ _ _ h0, allQ_up _ _ _ h0]
      have : pieceQ (f + 1) n = pieceQ f n := by
        funext i
        unfold pieceQ
        by_cases hi : n = 0
        · exact absurd hi h0
        · rw [ih (n - (i + 1)) (i + 1) (by omega)]
      unfold upQ
      rw [this]
/-- heads ahead of each -/
theorem map_piece (H : List Int) (f n i : Nat) : (pieceQ f n i).map (fun R => H ++ R) = (allQ f (n - (i + 1)) (i + 1)).map (fun R => (H ++ [((i + 1 : Nat) : Int)]) ++ R) := by
  unfold pieceQ
  rw [List.map_map]
  congr 1
  funext R
  simp
end NP
end Go.Proofs.Ytbbbfaollcklkaa
namespace Go.Proofs.Ytbbbfaollcklkaa
open Go.RowKit NP
set_option maxRecDepth 8000
set_option linter.unusedVariables false
theorem T_ints : (Try.prog.info? 22).map (fun i => (i.zero, i.size, i.bytes)) = some (some (.slice none 0 0), 1, 24) := by kernel_rfl

theorem slist_zero (a : Option Addr) (c B : Nat) (H : List Int) (most : Int) (w : World) (h : Rd w B a (ints H)) (hB : B ≤ w.heap.size) (hl : H.length ≤ 100) :
    Calls Try.prog 81 #[.slice a H.length c, .int .i64 0, .int .i64 most] w fun e w' => ∃ a' c' vs, e = .returned (.slice a' 1 c') ∧ OwnLL w' w.heap.size w'.heap.size 22 3 (.slice a' 1 c') vs [H] ∧ Below w.heap.size w w' := by
  obtain ⟨i0, hi, hz0, hz1, hz2⟩ := T_int'
  go_enter Try.func81, Try.ntmps81
  go_wp2_with (at_builtin; refine wpList_append_o _ rfl (.tmp 11) (.tmp 12) 22 rfl w.heap.size (w.heap.size + 1) 3 i0 (.int .i64 0) 8 Try.underlying22 hi hz0 hz1 hz2 rfl _ [] rfl (Own.empty w 3) B a H.length c (ints H) rfl (h.alloc hB _) (by simp) (ints_one H) (by simp; unfold maxLen; omega) (by simp; omega) (by simp) ?_; intro v' w1 ho1 hg1 hat1; rw [List.nil_append] at ho1; obtain ⟨a2, c2, rfl⟩ := ho1.form; rw [List.length_map] at ho1 ⊢)
  have hg2 : (w.alloc (.cells #[] 3)).grownBy w1 (some w.heap.size) := hg1
  have hz1' := hg2.size
  simp at hz1'
  have hbl : Below w.heap.size w w1 := below_push (Below.refl _ _) (Nat.le_refl _) hg2 (fun g hg => by cases hg; exact Nat.le_refl _)
  go_ret
  exact ⟨_, _, _, rfl, by have := OwnLL.single (eo := 22) ho1 (by omega); simpa using this, hbl.alloc (by omega) _⟩
end Go.Proofs.Ytbbbfaollcklkaa
namespace Go.Proofs.Ytbbbfaollcklkaa
open Go.RowKit NP
set_option maxRecDepth 8000
set_option linter.unusedVariables false
set_option linter.unusedSimpArgs false
theorem OwnLL.one {w : World} {lo hi : Nat} {eo e : TypeId} {v : Value} {vs : List Value} {LL : List (List Int)} (h : OwnLL w lo hi eo e v vs LL) : ∀ u ∈ vs, u.oneCell' = true := by
  intro u hu
  obtain ⟨k, hk, rfl⟩ := List.getElem_of_mem hu
  have hl : k < LL.length := by rw [← h.len]; exact hk
  obtain ⟨a, c, e⟩ := (h.inner k _ _ (List.getElem?_eq_getElem hk) (List.getElem?_eq_getElem hl)).form
  rw [e]; rfl
theorem upQ_le (f n top j : Nat) : (upQ f n top j).length ≤ (upQ f n top top).length := by
  unfold upQ
  rw [List.take_of_length_le (i := top) (by simp)]
  have h := List.take_append_drop j (List.range top).reverse
  have h2 : (((List.range top).reverse.take j ++ (List.range top).reverse.drop j).flatMap (pieceQ f n)).length = ((List.range top).reverse.flatMap (pieceQ f n)).length := by rw [h]
  rw [List.flatMap_append, List.length_append] at h2
  omega
def cntQ : Bool := (List.range 17).all fun f => (List.range 17).all fun n => (List.range 17).all fun m => decide ((allQ f n m).length ≤ 400)
set_option maxRecDepth 100000 in
theorem cntQ_all : cntQ = true := by decide +kernel
theorem allQ_le {f n m : Nat} (hf : f ≤ 16) (hn : n ≤ 16) (hm : m ≤ 16) : (allQ f n m).length ≤ 400 := by
  have h := cntQ_all
  unfold cntQ at h
  have h1 := List.all_eq_true.1 h f (by simp; omega)
  have h2 := List.all_eq_true.1 h1 n (by simp; omega)
  have h3 := List.all_eq_true.1 h2 m (by simp; omega)
  simpa using h3
theorem up_next (H : List Int) (f n top q : Nat) (h1 : 1 ≤ q) (hq : q ≤ top) : (upQ f n top (top - q)).map (H ++ ·) ++ (allQ f (n - q) q).map ((H ++ [(q : Int)]) ++ ·) = (upQ f n top (top - (q - 1))).map (H ++ ·) := by
  rw [show top - (q - 1) = (top - q) + 1 from by omega, upQ_succ _ _ _ _ (by omega), List.map_append, show top - 1 - (top - q) = q - 1 from by omega, map_piece, show q - 1 + 1 = q from by omega]
theorem T_ints' : ∃ i, Try.prog.info? 22 = some i ∧ i.zero = some (.slice none 0 0) ∧ i.size = 1 ∧ i.bytes = 24 := info_parts T_ints

def ListsTo (f : Nat) : Prop := ∀ (n : Nat) (a : Option Addr) (c B : Nat) (H : List Int) (most : Nat) (w : World), n ≤ f → H.length + f ≤ 60 → most ≤ 16 → Rd w B a (ints H) → B ≤ w.heap.size →
    Calls Try.prog 81 #[.slice a H.length c, .int .i64 (n : Int), .int .i64 (most : Int)] w fun e w' => ∃ a' c' vs, e = .returned (.slice a' (allQ f n most).length c') ∧ OwnLL w' w.heap.size w'.heap.size 22 3 (.slice a' (allQ f n most).length c') vs ((allQ f n most).map (H ++ ·)) ∧ Below w.heap.size w w'
theorem slist_base (f n : Nat) (hn : n = 0) (a : Option Addr) (c B : Nat) (H : List Int) (most : Nat) (w : World) (hl : H.length ≤ 60) (h : Rd w B a (ints H)) (hB : B ≤ w.heap.size) :
    Calls Try.prog 81 #[.slice a H.length c, .int .i64 (n : Int), .int .i64 (most : Int)] w fun e w' => ∃ a' c' vs, e = .returned (.slice a' (allQ f n most).length c') ∧ OwnLL w' w.heap.size w'.heap.size 22 3 (.slice a' (allQ f n most).length c') vs ((allQ f n most).map (H ++ ·)) ∧ Below w.heap.size w w' := by
  subst hn
  rw [allQ_zero]
  refine (slist_zero a c B H most w h hB (by omega)).mono ?_
  rintro e w' ⟨a', c', vs, rfl, ho, hb⟩
  exact ⟨a', c', vs, rfl, by simpa using ho, hb⟩
set_option maxHeartbeats 4000000 in
theorem slist_step (f : Nat) (hf : f < 16) (ih : ListsTo f) : ListsTo (f + 1) := by
  intro n a c B H most w hn hH hm hrd0 hB
  by_cases h0 : n = 0
  · exact slist_base (f + 1) n h0 a c B H most w (by omega) hrd0 hB
  obtain ⟨i0, hi, hz0, hz1, hz2⟩ := T_int'
  obtain ⟨i1, hj, hy0, hy1, hy2⟩ := T_ints'
  obtain ⟨top, htop⟩ : ∃ top, top = min n most := ⟨_, rfl⟩
  have htn : top ≤ n := by rw [htop]; exact Nat.min_le_left _ _
  have htm : top ≤ most := by rw [htop]; exact Nat.min_le_right _ _
  have hor : top = n ∨ top = most := by rw [htop]; rcases Nat.le_total n most with h | h <;> simp [h]
  have h1n : 1 ≤ n := by omega
  rw [allQ_up f n most h0, ← htop]
  have HALL : Hid ((upQ f n top top).length ≤ 400) := Lib.hid (by have := allQ_le (f := f + 1) (n := n) (m := most) (by omega) (by omega) (by omega); rw [allQ_up f n most h0, ← htop] at this; exact this)
  have hn0 : ((n : Int) == 0) = false := beq_eq_false_iff_ne.2 (by omega)
  have hE := OwnLL.empty w 22 3
  have hbE : Below w.heap.size w (w.alloc (.cells #[] 22)) := (Below.refl _ _).alloc (Nat.le_refl _) _
  have HTOP := Lib.hid htop
  clear htop
  by_cases hlt : most < n
  · have hlt' : (most : Int) < (n : Int) := by omega
    have htq : top = most := by rw [HTOP.out]; omega
    clear hor
    subst htq
    go_enter Try.func81, Try.ntmps81
    go_wp2_with fail
    clear hlt hlt'
    go_loopw [7, 8] (fun v kk wr => ∃ (q : Nat) (a' : Option Addr) (c' : Nat) (vs : List Value), kk = .int .i64 (q : Int) ∧ q ≤ top ∧ v = .slice a' (upQ f n top (top - q)).length c' ∧ Below w.heap.size w wr ∧ OwnLL wr w.heap.size wr.heap.size 22 3 (.slice a' (upQ f n top (top - q)).length c') vs ((upQ f n top (top - q)).map (H ++ ·))) (fun _ kk _ => (intOf kk).toNat)
    case atStart => exact ⟨top, _, _, _, rfl, Nat.le_refl _, by rw [Nat.sub_self, upQ_zero]; rfl, hbE, by rw [Nat.sub_self, upQ_zero]; exact hE.more⟩
    case round =>
      obtain ⟨q, a', c', vs, rfl, hq, rfl, hbel, hout⟩ := hrel
      have HOUT := Lib.hid hout
      have HV : Hid (vs.length = (upQ f n top (top - q)).length) := Lib.hid (by rw [hout.len, List.length_map])
      clear hout hE hbE
      by_cases hq0 : q = 0
      · subst hq0
        go_wp2_with fail
        go_ret
        exact ⟨a', c', vs, rfl, HOUT.out, hbel⟩
      · have hq1 : 1 ≤ q := by omega
        have hq1' : (1 : Int) ≤ (q : Int) := by omega
        have hrd := hrd0.below (hbel.mono hB)
        have hupn := upQ_le f n top (top - q + 1)
        rw [upQ_succ f n top (top - q) (by omega), List.length_append, show top - 1 - (top - q) = q - 1 from by omega] at hupn
        have hpl : (pieceQ f n (q - 1)).length = (allQ f (n - q) q).length := by unfold pieceQ; rw [List.length_map, show q - 1 + 1 = q from by omega]
        rw [hpl] at hupn
        have HUP : Hid ((upQ f n top (top - q)).length + (allQ f (n - q) q).length ≤ 400) := Lib.hid (Nat.le_trans hupn HALL.out)
        clear hupn hpl
        obtain ⟨G, hG⟩ : ∃ G, G = H ++ [(q : Int)] := ⟨_, rfl⟩
        have HGL : Hid (G.length + f ≤ 60) := Lib.hid (by rw [hG]; simp; omega)
        have HG := Lib.hid hG
        clear hG hq0
        have hcast : ((n - q : Nat) : Int) = (n : Int) - (q : Int) := by omega
        go_wp2_with (first
          | (at_builtin; refine wpList_append_o _ rfl (.tmp 23) (.tmp 34) 76 rfl w.heap.size wr.heap.size 22 i1 (.slice none 0 0) 24 Try.underlying76 hj hy0 hy1 hy2 rfl _ vs rfl (HOUT.out.outer.below hb35) w5.heap.size a5 (allQ f (n - q) q).length c5 vsx rfl HX.out.outer.rd (by rw [HX.out.len, List.length_map]) HX.out.one (by rw [HV.out]; unfold maxLen; have := HUP.out; omega) (by rw [HV.out]; have := HUP.out; omega) (by have := hbel.size; have := hb35.size; omega) ?_; intro v' w6 ho6 hg6 hat6; have hall := (HOUT.out.below hb35).appendAll HX.out hb4.size (Nat.le_trans hbel.size hb4.size) ho6 hg6 hat6; have hb6 : Below w.heap.size w w6 := (hbel.trans (hb35.mono hbel.size)).grown hg6 (by have := hbel.size; have := hb35.size; omega) HOUT.out.outer.base; clear ho6 hg6 hat6; rw [HG.out, up_next H f n _ q hq1 hq] at hall; obtain ⟨a6, c6, rfl⟩ := hall.form; rw [List.length_map] at hall ⊢)
          | (go_at_call 81; have ihh := ih (n - q) a4 c4 _ G q _ (by omega) HGL.out (by omega) HO4.out.rd (Nat.le_refl _); rw [hcast] at ihh; refine ihh.mono ?_; rintro e w5 ⟨a5, c5, vsx, rfl, hx5, hb5⟩; clear ihh; have hb35 : Below wr.heap.size wr w5 := hb4.trans (hb5.mono hb4.size); have HX := Lib.hid hx5; clear hx5)
          | (at_builtin; refine wpList_append_o _ rfl (.tmp 26) (.tmp 28) 22 rfl wr.heap.size w3.heap.size 3 i0 (.int .i64 0) 8 Try.underlying22 hi hz0 hz1 hz2 rfl _ (ints H) rfl (HO3.out.alloc _) (w3.heap.size + 1) (some ⟨w3.heap.size, 0, none⟩) 1 1 [.int .i64 (q : Int)] rfl (Rd.one w3 _ _) rfl (by simp; rfl) (by simp; unfold maxLen; omega) (by simp; omega) (by rw [World.size_alloc]; have := hb3.size; omega) ?_; intro v' w4 ho4 hg4 hat4; clear hat4; have hb4 : Below wr.heap.size wr w4 := below_push hb3 (Nat.le_refl _) hg4 HO3.out.base; clear hg4; rw [show ints H ++ [Value.int .i64 (q : Int)] = ints G from by rw [HG.out]; simp [ints]] at ho4; obtain ⟨a4, c4, rfl⟩ := ho4.form; rw [List.length_map] at ho4 ⊢; have HO4 := Lib.hid ho4; clear ho4)
          | (at_builtin; refine wpList_append_o _ rfl (.tmp 24) (.tmp 25) 22 rfl wr.heap.size (wr.heap.size + 1) 3 i0 (.int .i64 0) 8 Try.underlying22 hi hz0 hz1 hz2 rfl _ [] rfl (Own.empty wr 3) B a H.length c (ints H) rfl (hrd.alloc (Nat.le_trans hB hbel.size) _) (by simp) (ints_one H) (by simp; unfold maxLen; omega) (by simp; omega) (by simp) ?_; intro v' w3 ho3 hg3 hat3; rw [List.nil_append] at ho3; clear hat3; obtain ⟨a3, c3, rfl⟩ := ho3.form; rw [List.length_map] at ho3 ⊢; have hb3 : Below wr.heap.size wr w3 := below_push (Below.refl _ _) (Nat.le_refl _) hg3 (fun g hg => by cases hg; exact Nat.le_refl _); clear hg3; have HO3 := Lib.hid ho3; clear ho3))
        go_roundw
        case rel =>
          exact ⟨q - 1, a6, c6, _, by rw [show ((q - 1 : Nat) : Int) = (q : Int) - 1 from by omega], by omega, rfl, hb6, hall⟩
        case measure => simp [intOf]; omega

  · have hlt' : ¬ (most : Int) < (n : Int) := by omega
    have htq : n = top := by rw [HTOP.out]; omega
    clear hor
    subst htq
    go_enter Try.func81, Try.ntmps81
    go_wp2_with fail
    clear hlt hlt'
    go_loopw [7, 8] (fun v kk wr => ∃ (q : Nat) (a' : Option Addr) (c' : Nat) (vs : List Value), kk = .int .i64 (q : Int) ∧ q ≤ n ∧ v = .slice a' (upQ f n n (n - q)).length c' ∧ Below w.heap.size w wr ∧ OwnLL wr w.heap.size wr.heap.size 22 3 (.slice a' (upQ f n n (n - q)).length c') vs ((upQ f n n (n - q)).map (H ++ ·))) (fun _ kk _ => (intOf kk).toNat)
    case atStart => exact ⟨n, _, _, _, rfl, Nat.le_refl _, by rw [Nat.sub_self, upQ_zero]; rfl, hbE, by rw [Nat.sub_self, upQ_zero]; exact hE.more⟩
    case round =>
      obtain ⟨q, a', c', vs, rfl, hq, rfl, hbel, hout⟩ := hrel
      have HOUT := Lib.hid hout
      have HV : Hid (vs.length = (upQ f n n (n - q)).length) := Lib.hid (by rw [hout.len, List.length_map])
      clear hout hE hbE
      by_cases hq0 : q = 0
      · subst hq0
        go_wp2_with fail
        go_ret
        exact ⟨a', c', vs, rfl, HOUT.out, hbel⟩
      · have hq1 : 1 ≤ q := by omega
        have hq1' : (1 : Int) ≤ (q : Int) := by omega
        have hrd := hrd0.below (hbel.mono hB)
        have hupn := upQ_le f n n (n - q + 1)
        rw [upQ_succ f n n (n - q) (by omega), List.length_append, show n - 1 - (n - q) = q - 1 from by omega] at hupn
        have hpl : (pieceQ f n (q - 1)).length = (allQ f (n - q) q).length := by unfold pieceQ; rw [List.length_map, show q - 1 + 1 = q from by omega]
        rw [hpl] at hupn
        have HUP : Hid ((upQ f n n (n - q)).length + (allQ f (n - q) q).length ≤ 400) := Lib.hid (Nat.le_trans hupn HALL.out)
        clear hupn hpl
        obtain ⟨G, hG⟩ : ∃ G, G = H ++ [(q : Int)] := ⟨_, rfl⟩
        have HGL : Hid (G.length + f ≤ 60) := Lib.hid (by rw [hG]; simp; omega)
        have HG := Lib.hid hG
        clear hG hq0
        have hcast : ((n - q : Nat) : Int) = (n : Int) - (q : Int) := by omega
        go_wp2_with (first
          | (at_builtin; refine wpList_append_o _ rfl (.tmp 23) (.tmp 34) 76 rfl w.heap.size wr.heap.size 22 i1 (.slice none 0 0) 24 Try.underlying76 hj hy0 hy1 hy2 rfl _ vs rfl (HOUT.out.outer.below hb35) w5.heap.size a5 (allQ f (n - q) q).length c5 vsx rfl HX.out.outer.rd (by rw [HX.out.len, List.length_map]) HX.out.one (by rw [HV.out]; unfold maxLen; have := HUP.out; omega) (by rw [HV.out]; have := HUP.out; omega) (by have := hbel.size; have := hb35.size; omega) ?_; intro v' w6 ho6 hg6 hat6; have hall := (HOUT.out.below hb35).appendAll HX.out hb4.size (Nat.le_trans hbel.size hb4.size) ho6 hg6 hat6; have hb6 : Below w.heap.size w w6 := (hbel.trans (hb35.mono hbel.size)).grown hg6 (by have := hbel.size; have := hb35.size; omega) HOUT.out.outer.base; clear ho6 hg6 hat6; rw [HG.out, up_next H f n _ q hq1 hq] at hall; obtain ⟨a6, c6, rfl⟩ := hall.form; rw [List.length_map] at hall ⊢)
          | (go_at_call 81; have ihh := ih (n - q) a4 c4 _ G q _ (by omega) HGL.out (by omega) HO4.out.rd (Nat.le_refl _); rw [hcast] at ihh; refine ihh.mono ?_; rintro e w5 ⟨a5, c5, vsx, rfl, hx5, hb5⟩; clear ihh; have hb35 : Below wr.heap.size wr w5 := hb4.trans (hb5.mono hb4.size); have HX := Lib.hid hx5; clear hx5)
          | (at_builtin; refine wpList_append_o _ rfl (.tmp 26) (.tmp 28) 22 rfl wr.heap.size w3.heap.size 3 i0 (.int .i64 0) 8 Try.underlying22 hi hz0 hz1 hz2 rfl _ (ints H) rfl (HO3.out.alloc _) (w3.heap.size + 1) (some ⟨w3.heap.size, 0, none⟩) 1 1 [.int .i64 (q : Int)] rfl (Rd.one w3 _ _) rfl (by simp; rfl) (by simp; unfold maxLen; omega) (by simp; omega) (by rw [World.size_alloc]; have := hb3.size; omega) ?_; intro v' w4 ho4 hg4 hat4; clear hat4; have hb4 : Below wr.heap.size wr w4 := below_push hb3 (Nat.le_refl _) hg4 HO3.out.base; clear hg4; rw [show ints H ++ [Value.int .i64 (q : Int)] = ints G from by rw [HG.out]; simp [ints]] at ho4; obtain ⟨a4, c4, rfl⟩ := ho4.form; rw [List.length_map] at ho4 ⊢; have HO4 := Lib.hid ho4; clear ho4)
          | (at_builtin; refine wpList_append_o _ rfl (.tmp 24) (.tmp 25) 22 rfl wr.heap.size (wr.heap.size + 1) 3 i0 (.int .i64 0) 8 Try.underlying22 hi hz0 hz1 hz2 rfl _ [] rfl (Own.empty wr 3) B a H.length c (ints H) rfl (hrd.alloc (Nat.le_trans hB hbel.size) _) (by simp) (ints_one H) (by simp; unfold maxLen; omega) (by simp; omega) (by simp) ?_; intro v' w3 ho3 hg3 hat3; rw [List.nil_append] at ho3; clear hat3; obtain ⟨a3, c3, rfl⟩ := ho3.form; rw [List.length_map] at ho3 ⊢; have hb3 : Below wr.heap.size wr w3 := below_push (Below.refl _ _) (Nat.le_refl _) hg3 (fun g hg => by cases hg; exact Nat.le_refl _); clear hg3; have HO3 := Lib.hid ho3; clear ho3))
        go_roundw
        case rel =>
          exact ⟨q - 1, a6, c6, _, by rw [show ((q - 1 : Nat) : Int) = (q : Int) - 1 from by omega], by omega, rfl, hb6, hall⟩
        case measure => simp [intOf]; omega

theorem slist_lists : ∀ f : Nat, f ≤ 16 → ListsTo f := by
  intro f
  induction f with
  | zero =>
    intro _ n a c B H most w hn hH hm hrd hB
    exact slist_base 0 n (by omega) a c B H most w (by omega) hrd hB
  | succ f ih => intro hf; exact slist_step f (by omega) (ih (by omega))
end Go.Proofs.Ytbbbfaollcklkaa
namespace Go.Proofs.Ytbbbfaollcklkaa
open Go.RowKit NP
set_option maxRecDepth 8000
set_option linter.unusedVariables false
set_option linter.unusedSimpArgs false
theorem OwnLL.keep {w w' : World} {lo hi : Nat} {eo e : TypeId} {v : Value} {vs : List Value} {LL : List (List Int)} (h : OwnLL w lo hi eo e v vs LL) (hs : w.heap.size ≤ w'.heap.size) (hk : ∀ g, lo ≤ g → g < hi → w'.heap[g]? = w.heap[g]?) : OwnLL w' lo hi eo e v vs LL :=
  ⟨h.outer.keep hs fun g hg => hk g (h.outer.base g hg) (h.outer.lt g hg), h.len, fun k u L hu hL => (h.inner k u L hu hL).keep hs fun g hg => hk g ((h.inner k u L hu hL).base g hg) ((h.inner k u L hu hL).lt g hg), h.apartO, h.apart⟩
theorem remIn_twoK (L : List Int) : remIn 2 [1] L = kRem 2 1 L := by
  unfold remIn kRem
  congr 1
  funext j
  simp [hasI]
  try rw [Bool.eq_iff_iff]
  try simp
  try omega
def okQ (L : List Int) : Bool := valid L && decide (L.length ≤ 16) && L.all fun x => decide (1 ≤ x) && decide (x ≤ 16)
def okTab : Bool := (List.range 13).all fun n => (allQ n n n).all okQ
set_option maxRecDepth 100000 in
theorem okTab_all : okTab = true := by decide +kernel
theorem allQ_ok {n : Nat} (hn : n ≤ 12) : ∀ L ∈ allQ n n n, valid L = true ∧ SmallParts L := by
  intro L hL
  have h := okTab_all
  unfold okTab at h
  have h1 := List.all_eq_true.1 h n (by simp; omega)
  have h2 := List.all_eq_true.1 h1 L hL
  unfold okQ at h2
  simp only [Bool.and_eq_true, decide_eq_true_eq, List.all_eq_true] at h2
  exact ⟨h2.1.1, h2.1.2, h2.2⟩

/-- the model's kind of a name -/
def SK (s : ByteArray) (K : List Int → Bool) : Prop := ∀ (a : Option Addr) (c B : Nat) (L : List Int) (w : World), valid L = true → Rd w B a (ints L) → B ≤ w.heap.size →
    Calls Try.prog 82 #[.string s, .slice a L.length c] w fun e w' => e = .returned (.tuple #[.bool (K L), .bool true]) ∧ Below w.heap.size w w'
theorem sk_distinct : SK ⟨#[100, 105, 115, 116, 105, 110, 99, 116]⟩ (kFall 1 1) := by
  intro a c B L w hv h hB
  have HV := Lib.hid hv
  have hl16 := (valid_bd hv).2.2.2
  clear hv
  go_enter Try.func82, Try.ntmps82
  go_wp2_with (go_at_call 54; refine (gaps_any _ _ B L 1 (by omega) HV.out _ h).mono ?_; rintro e wv ⟨rfl, n1, rfl⟩)
  go_ret2
  exact ⟨rfl, (Dr.n w n1).below _⟩
theorem sk_self : SK ⟨#[115, 101, 108, 102]⟩ kSelf := by
  intro a c B L w hv h hB
  have HV := Lib.hid hv
  have hl16 := (valid_bd hv).2.2.2
  have hcl := (valid_bd (valid_conj hv)).2.2.2
  clear hv
  go_enter Try.func82, Try.ntmps82
  go_wp2_with (first
    | (go_at_call 90; refine (same_any _ _ _ _ _ _ L (conj L) (by omega) _ ((h.more hB).below hb2) ho2.rd (by omega)).mono ?_; rintro e wv ⟨rfl, n3, rfl⟩)
    | (go_at_call 64; refine (sconjugate_any _ _ B L _ h hB HV.out).mono ?_; rintro e w2 ⟨a2, c2, rfl, ho2, hb2⟩))
  go_ret2
  exact ⟨rfl, hb2.trans ((Dr.n _ n3).below _)⟩
set_option maxHeartbeats 1000000 in
theorem sk_distinctodd : SK ⟨#[100, 105, 115, 116, 105, 110, 99, 116, 111, 100, 100]⟩ (fun L => kFall 1 1 L && kRem 2 1 L) := by
  intro a c B L w hv h hB
  have HV := Lib.hid hv
  have hl16 := (valid_bd hv).2.2.2
  clear hv
  cases hk : kFall 1 1 L with
  | false =>
    have HK := Lib.hid hk
    clear hk
    go_enter Try.func82, Try.ntmps82
    go_wp2_with (go_at_call 54; refine (gaps_any _ _ B L 1 (by omega) HV.out _ h).mono ?_; rintro e wv ⟨rfl, n1, rfl⟩; rw [HK.out])
    go_ret2
    exact ⟨by simp [HK.out], (Dr.n w n1).below _⟩
  | true =>
    have HK := Lib.hid hk
    clear hk
    go_enter Try.func82, Try.ntmps82
    go_wp2_with (first
      | (go_at_call 89; refine (allRemain_any _ _ _ _ _ B L [1] 2 (by omega) HV.out _ (h2.below hb2) (rd_new w2 _ _) (by simp)).mono ?_; rintro e w3 ⟨rfl, rfl⟩; rw [remIn_twoK])
      | (go_at_call 54; refine (gaps_any _ _ B L 1 (by omega) HV.out _ h).mono ?_; rintro e wv ⟨rfl, n1, rfl⟩; rw [HK.out]; have h2 := h.dr (Dr.n w n1); have hb1 := (Dr.n w n1).below w.heap.size; obtain ⟨w2, hw2⟩ : ∃ w2, w2 = w.drewN n1 := ⟨_, rfl⟩; rw [← hw2] at h2 hb1 ⊢; have hb2 : Below B w2 (w2.alloc (.cells (ints [1]).toArray 3)) := (Below.refl _ _).alloc (Nat.le_trans hB hb1.size) _; clear hw2))
    go_ret2
    exact ⟨by simp [HK.out], hb1.alloc hb1.size _⟩
/-- what lies between lo and the end of w2 is the same in w' -/
def Kp (w2 w' : World) (lo : Nat) : Prop := w2.heap.size ≤ w'.heap.size ∧ ∀ g, lo ≤ g → g < w2.heap.size → w'.heap[g]? = w2.heap[g]?
theorem Kp.below {w2 w w' : World} {lo : Nat} (h : Kp w2 w lo) (hb : Below w.heap.size w w') : Kp w2 w' lo :=
  ⟨Nat.le_trans h.1 hb.size, fun g h1 h2 => (hb.block g (Nat.lt_of_lt_of_le h2 h.1)).trans (h.2 g h1 h2)⟩
theorem Kp.alloc {w2 w : World} {lo : Nat} (h : Kp w2 w lo) (o : Obj) : Kp w2 (w.alloc o) lo :=
  h.below ((Below.refl _ _).alloc (Nat.le_refl _) o)
theorem Kp.grown {w2 w w' : World} {lo : Nat} {row : Option Nat} (h : Kp w2 w lo) (hg : w.grownBy w' row) (hr : ∀ g, row = some g → g < lo ∨ w2.heap.size ≤ g) : Kp w2 w' lo :=
  ⟨Nat.le_trans h.1 hg.size, fun g h1 h2 => (hg.block g (Nat.lt_of_lt_of_le h2 h.1) (fun e => by have := hr g e.symm; omega)).trans (h.2 g h1 h2)⟩
set_option maxHeartbeats 4000000 in
theorem kindList_any (s : ByteArray) (K : List Int → Bool) (hSK : SK s K) (n : Nat) (hn : n ≤ 12) (w : World) :
    Calls Try.prog 61 #[.string s, .int .i64 (n : Int)] w fun e w' => ∃ a' c' us, e = .returned (.slice a' us.length c') ∧ us.length ≤ 400 ∧ Own w' w.heap.size w'.heap.size 22 (.slice a' us.length c') us ∧ (∀ u ∈ us, ∃ M, SmallParts M ∧ Own w' w.heap.size w'.heap.size 3 u (ints M)) ∧ Below w.heap.size w w' := by
  obtain ⟨i0, hi, hz0, hz1, hz2⟩ := T_int'
  obtain ⟨i1, hj, hy0, hy1, hy2⟩ := T_ints'
  have hE := Own.empty w 22
  obtain ⟨w1, hw1⟩ : ∃ w1, w1 = w.alloc (.cells #[] 22) := ⟨_, rfl⟩
  have hb1 : Below w.heap.size w w1 := hw1 ▸ (Below.refl _ _).alloc (Nat.le_refl _) _
  have hz1' : w1.heap.size = w.heap.size + 1 := by rw [hw1, World.size_alloc]
  have HW1 := Lib.hid hw1
  have HZ1 := Lib.hid hz1'
  rw [← hw1] at hE
  clear hw1 hz1'
  have HZ2 : Hid ((w1.alloc (.cells #[] 3)).heap.size = w.heap.size + 1 + 1) := Lib.hid (by rw [World.size_alloc, HZ1.out])
  obtain ⟨LL, hLL⟩ : ∃ LL, LL = allQ n n n := ⟨_, rfl⟩
  have HOK : Hid (∀ L ∈ LL, valid L = true ∧ SmallParts L) := Lib.hid (hLL ▸ allQ_ok hn)
  have hle : LL.length ≤ 400 := hLL ▸ allQ_le (by omega) (by omega) (by omega)
  have HL := Lib.hid hLL
  clear hLL
  go_enter Try.func61, Try.ntmps61
  go_wp2_with fail
  rw [← HW1.out]
  refine (slist_lists n (by omega) n _ 0 (w1.alloc (.cells #[] 3)).heap.size [] n _ (Nat.le_refl _) (by simp; omega) (by omega) (fun h => absurd rfl h) (Nat.le_refl _)).mono ?_
  rintro e w2 ⟨a6, c6, vs, rfl, h6, hb2⟩
  rw [show List.map (fun x => [] ++ x) (allQ n n n) = allQ n n n from by simp, ← HL.out] at h6
  rw [← HL.out]
  rw [HZ2.out] at h6 hb2
  have HALL := Lib.hid (h6.lower (show w.heap.size + 1 ≤ w.heap.size + 1 + 1 by omega))
  clear h6
  have hbw2 : Below w.heap.size w w2 := (hb1.alloc hb1.size _).trans (hb2.mono (by omega))
  have hE2 : Own w2 w.heap.size (w.heap.size + 1) 22 (.slice (some ⟨w.heap.size, 0, none⟩) 0 0) [] := (hE.alloc _).below (hb2.mono (by omega))
  have hsz2 : w.heap.size + 1 ≤ w2.heap.size := by have := hb2.size; rw [HZ2.out] at this; omega
  go_wp2_with fail
  clear hE hb1 hb2
  go_loopw [5, 7] (fun v ii wr => ∃ (i : Nat) (a5 : Option Addr) (c5 : Nat) (us : List Value), ii = .int .i64 (i : Int) ∧ i ≤ LL.length ∧ us.length ≤ i ∧ v = .slice a5 us.length c5 ∧ Own wr w.heap.size wr.heap.size 22 (.slice a5 us.length c5) us ∧ (∀ g, (Value.slice a5 us.length c5).ownBlock = some g → g < w.heap.size + 1 ∨ w2.heap.size ≤ g) ∧ (∀ u ∈ us, u ∈ vs) ∧ Kp w2 wr (w.heap.size + 1) ∧ Below w.heap.size w wr) (fun _ ii _ => LL.length - (intOf ii).toNat)
  case atStart => exact ⟨0, _, _, [], rfl, Nat.zero_le _, Nat.le_refl _, rfl, hE2.more, fun g hg => by left; cases hg; exact Nat.lt_succ_self _, by simp, ⟨Nat.le_refl _, fun _ _ _ => rfl⟩, hbw2⟩
  case round =>
    obtain ⟨i, a5, c5, us, rfl, hiN, hui, rfl, ho, hout, hmem, hkp, hbel⟩ := hrel
    clear hE2 hbw2
    have HO := Lib.hid ho
    clear ho
    by_cases hlt : i < LL.length
    · have hlt' : (i : Int) < (LL.length : Int) := by omega
      obtain ⟨hv, hs⟩ := HOK.out _ (List.getElem_mem hlt)
      obtain ⟨gA, aM, cM, rfl, hgl, hgh, hcell, hoM, hvk⟩ := (HALL.out.keep hkp.1 hkp.2).at_ hlt
      obtain ⟨M, hM⟩ : ∃ M, M = LL[i] := ⟨_, rfl⟩
      rw [← hM] at hv hs hcell hoM hvk
      have HV := Lib.hid hv
      have HR := Lib.hid hoM.rd
      clear hv hs hM hoM
      have hkz := hkp.1
      cases hK : K M with
      | false =>
        have HK := Lib.hid hK
        clear hK
        go_wp2_with (go_at_call 82; refine (hSK _ _ _ M _ HV.out HR.out (by omega)).mono ?_; rintro e w3 ⟨rfl, hb3⟩; rw [HK.out])
        go_roundw
        case rel =>
          exact ⟨i + 1, a5, c5, us, by go_num, by omega, by omega, rfl, (HO.out.below hb3).more, hout, hmem, hkp.below hb3, hbel.trans (hb3.mono hbel.size)⟩
        case measure => simp [intOf]; omega
      | true =>
        have HK := Lib.hid hK
        clear hK
        go_wp2_with (first
          | (at_builtin; refine wpList_append_o _ rfl (.tmp 31) (.tmp 36) 76 rfl w.heap.size w3.heap.size 22 i1 (.slice none 0 0) 24 Try.underlying76 hj hy0 hy1 hy2 rfl _ us rfl ((HO.out.below hb3).more.alloc _) (w3.heap.size + 1) (some ⟨w3.heap.size, 0, none⟩) 1 1 [.slice aM M.length cM] rfl (Rd.one w3 _ _) rfl (by intro u hu; rw [List.mem_singleton.1 hu]; rfl) (by unfold maxLen; omega) (by omega) (by rw [World.size_alloc]; have := hbel.size; have := hb3.size; omega) ?_; intro v' w6 ho6 hg6 hat6)
          | (go_at_call 82; refine (hSK _ _ _ M _ HV.out HR.out (by omega)).mono ?_; rintro e w3 ⟨rfl, hb3⟩; rw [HK.out]; have hcell3 := (hb3.cell (p := ⟨gA, i, none⟩) (World.block_lt_of_cell? _ _ hcell)).trans hcell))
        go_roundw
        case rel =>
          have hlow : ∀ g, (Value.slice a5 us.length c5).ownBlock = some g → g < w.heap.size + 1 ∨ w2.heap.size ≤ g := hout
          obtain ⟨a7, c7, rfl⟩ := ho6.form
          rw [show (us ++ [Value.slice aM M.length cM]).length = us.length + 1 from by simp] at ho6 hat6 ⊢
          have hrow := HO.out.base
          refine ⟨i + 1, a7, c7, us ++ [Value.slice aM M.length cM], by go_num, by omega, by simp; omega, by simp, by simpa using ho6, fun g hg => ?_, fun u hu => ?_, ((hkp.below hb3).alloc _).grown hg6 hlow, below_push (hbel.trans (hb3.mono hbel.size)) (Nat.le_refl _) hg6 hrow⟩
          · rcases hat6 with e | e
            · exact hlow g (e ▸ (by simpa using hg))
            · have hg' : (Value.slice a7 (us.length + 1) c7).ownBlock = some g := by simpa using hg
              rw [e] at hg'
              cases hg'
              right
              have := hb3.size
              rw [World.size_alloc]
              omega
          · rcases List.mem_append.1 hu with h | h
            · exact hmem u h
            · rw [List.mem_singleton.1 h]; exact List.mem_of_getElem? hvk
        case measure => simp [intOf]; omega
    · obtain rfl : i = LL.length := by omega
      go_wp2_with fail
      go_ret
      refine ⟨a5, c5, us, rfl, by omega, HO.out, fun u hu => ?_, hbel⟩
      obtain ⟨k, hk, hku⟩ := List.getElem_of_mem (hmem u hu)
      have hAL := HALL.out.keep hkp.1 hkp.2
      have hkl : k < LL.length := by rw [← hAL.len]; exact hk
      refine ⟨LL[k], (HOK.out _ (List.getElem_mem hkl)).2, ?_⟩
      exact (((hAL.inner k u LL[k] (by rw [List.getElem?_eq_getElem hk, hku]) (List.getElem?_eq_getElem hkl)).lower (show w.heap.size ≤ w.heap.size + 1 by omega)).more)
end Go.Proofs.Ytbbbfaollcklkaa
namespace Go.Proofs.Ytbbbfaollcklkaa
open Go.RowKit NP
set_option maxRecDepth 8000
set_option linter.unusedVariables false

theorem small_of_parts {M : List Int} (h : SmallParts M) : Small M := ⟨by have := h.1; omega, fun x hx => by have := h.2 x hx; omega⟩

end Go.Proofs.Ytbbbfaollcklkaa
