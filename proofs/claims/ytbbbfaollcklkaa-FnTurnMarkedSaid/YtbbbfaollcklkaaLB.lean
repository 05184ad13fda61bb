/-
  Walks: the laws' own helpers on lists of marks and on marked parts: copied, compared, marked, held, measured.
-/
import Derived.Test.YtbbbfaollcklkaaM47
import Derived.Test.YtbbbfaollcklkaaL1
import Derived.Test.YtbbbfaollcklkaaAs
import Derived.Deep.MidRow
namespace Go.Proofs.Ytbbbfaollcklkaa
open Go.RowKit NP
set_option maxRecDepth 100000
set_option linter.unusedVariables false
set_option linter.unusedSimpArgs false
theorem boolRd {w : World} {B : Nat} {a : Option Addr} {bs : List Bool} (h : Rd w B a (bls bs)) {k : Nat} (hk : k < bs.length) : ∃ b o, a = some ⟨b, o, none⟩ ∧ b < B ∧ w.cell? ⟨b, o + k, none⟩ = some (.bool bs[k]) := by
  obtain ⟨b, o, h1, h2, h3⟩ := h (fun e => by
    have h0 : bs.length = 0 := by simpa using congrArg List.length e
    omega)
  exact ⟨b, o, h1, h2, h3 k _ (by simp [hk])⟩
theorem Blk.rangeQQ {w : World} {g : Nat} {t : TypeId} {vs : List Value} (h : Blk w g t vs.toArray) : w.rangeAt g 0 vs := fun j v hv => by
  rw [Nat.zero_add, h.cell j]; simpa using hv
theorem Blk.aside {w w' : World} {g lo hi : Nat} {t : TypeId} {cs : Array Value} (h : Blk w g t cs) (ha : Aside lo hi w w') (hd : g < lo ∨ hi ≤ g) : Blk w' g t cs := (ha.2 g hd h.lt).trans h
theorem rd_bools {w : World} {x : Addr} {l c : Nat} {fB : Nat → Bool} (hl : l ≤ c) (hc : ∀ i, i < c → w.cell? (x.add i) = some (.bool (fB i))) : Rd w w.heap.size (some x) (bls ((List.range l).map fB)) := fun hne => by
  have h0 : 0 < l := by
    rcases Nat.eq_zero_or_pos l with h0 | h0
    · subst h0; simp at hne
    · exact h0
  obtain ⟨b, o, spot⟩ := x
  have hc0 := hc 0 (by omega)
  have hspot : spot = none := by simpa [Addr.add] using World.cell?_spot hc0
  subst hspot
  have hlt := World.block_lt_of_cell? _ _ hc0
  refine ⟨b, o, rfl, by simpa [Addr.add] using hlt, fun j v hv => ?_⟩
  have hj : j < l := by
    have := (List.getElem?_eq_some_iff.1 hv).1
    simpa using this
  have h1 := hc j (by omega)
  rw [Addr.add_lit] at h1
  rw [h1]
  simpa [hj] using hv
theorem fill_setB {L : List Bool} {k : Nat} (hk : k < L.length) : (bls (L.take k) ++ List.replicate (L.length - k) (Value.bool false)).set k (.bool L[k]) = bls (L.take (k + 1)) ++ List.replicate (L.length - (k + 1)) (Value.bool false) := by
  rw [List.set_append_right _ _ (by simp; omega), List.length_map, List.length_take, Nat.min_eq_left (by omega), Nat.sub_self, show L.length - k = (L.length - (k + 1)) + 1 by omega, List.replicate_succ, List.set_cons_zero, List.take_succ_eq_append_getElem hk, bls, bls, List.map_append, List.append_assoc]
  rfl
theorem T_boolB : (Try.prog.info? 4).map (fun i => (i.zero, i.size, i.bytes)) = some (some (.bool false), 1, 1) := by kernel_rfl
theorem toBoolS_any (a : Option Addr) (c B : Nat) (L : List Bool) (w : World) (h : Rd w B a (bls L)) (hB : B ≤ w.heap.size) (hl : L.length ≤ 1048576) :
    Calls Try.prog 39 #[.slice a L.length c] w fun e w' => ∃ a', e = .returned (.slice a' L.length L.length) ∧ Own w' w.heap.size w'.heap.size 4 (.slice a' L.length L.length) (bls L) ∧ Below w.heap.size w w' := by
  obtain ⟨i0, hi, hz0, hz1, hz2⟩ := info_parts T_boolB
  go_enter Try.func39, Try.ntmps39
  go_wp2_with (refine wpList_make_full _ rfl _ _ 23 rfl w.heap.size 4 i0 (.bool false) 1 Try.underlying23 hi hz0 hz1 .i64 .i64 _ _ L.length rfl rfl rfl rfl (by rw [hz2]; omega) (by unfold maxLen; omega) (by simp) ?_; intro w1 hown1 hg1; have hb1 : Below w.heap.size w w1 := (Below.refl _ _).grown hg1 (Nat.le_refl _) (by simp); have ho1 : Own w1 w.heap.size w1.heap.size 4 (.slice (some ⟨w.heap.size, 0, none⟩) L.length L.length) (List.replicate L.length (Value.bool false)) := ⟨by simpa [toList_madeCells_one, Value.cells] using hown1, fun g hg => (hown1.lt g hg).2, Nat.le_refl _⟩; clear hown1 hg1)
  go_loopw [4] (fun i wr => ∃ k : Nat, k ≤ L.length ∧ i = .int .i64 k ∧ Below w.heap.size w wr ∧ Own wr w.heap.size wr.heap.size 4 (.slice (some ⟨w.heap.size, 0, none⟩) L.length L.length) (bls (L.take k) ++ List.replicate (L.length - k) (Value.bool false))) (fun i _ => L.length - (intOf i).toNat)
  case atStart => exact ⟨0, Nat.zero_le _, rfl, hb1, by simpa using ho1⟩
  case round =>
    obtain ⟨k, hk, rfl, hbr, hor⟩ := hrel
    clear hb1 ho1
    by_cases hlt : k < L.length
    · obtain ⟨b1, o1, rfl, -, hc1⟩ := boolRd ((h.more hB).below hbr) hlt
      obtain ⟨g, u, e, hlo, hhi, hc2, hf2⟩ := hor.spot (k := k) (by simp; omega)
      obtain rfl : w.heap.size = g := by injection e with e; injection e
      clear e
      have HF := Lib.hid (fill_setB hlt)
      have HO := Lib.hid hor
      clear hor
      go_wp2
      go_roundw
      case rel =>
        refine ⟨k + 1, by omega, by go_num, hbr.setCell (by simp) _, ?_⟩
        have e := HO.out.set k (.bool L[k])
        rw [HF.out] at e
        exact ⟨e.row, fun g hg => by simpa [World.setCell] using e.lt g hg, Nat.le_refl _⟩
      case measure => simp [intOf]; omega
    · obtain rfl : k = L.length := by omega
      go_wp2
      go_ret
      exact ⟨_, rfl, by simpa using hor, hbr⟩
theorem eqBoolS_same (a b : Option Addr) (ca cb Ba Bb : Nat) (L : List Bool) (w : World) (h : Rd w Ba a (bls L)) (hm : Rd w Bb b (bls L)) (hl : L.length ≤ 4611686018427387904) :
    Calls Try.prog 41 #[.slice a L.length ca, .slice b L.length cb] w fun e w' => e = .returned (.bool true) ∧ Dr w w' := by
  have hne : ((L.length : Int) != (L.length : Int)) = false := by simp
  go_enter Try.func41, Try.ntmps41
  go_wp2
  clear hne
  go_loopw [5] (fun i wr => ∃ k : Nat, k ≤ L.length ∧ i = .int .i64 k ∧ Dr w wr) (fun i _ => L.length - (intOf i).toNat)
  case atStart => exact ⟨0, Nat.zero_le _, rfl, Dr.refl _⟩
  case round =>
    obtain ⟨k, hk, rfl, hdr⟩ := hrel
    by_cases hlt : k < L.length
    · obtain ⟨b1, o1, rfl, -, hc1⟩ := boolRd (h.dr hdr) hlt
      obtain ⟨b2, o2, rfl, -, hc2⟩ := boolRd (hm.dr hdr) hlt
      have hlt' : (k : Int) < (L.length : Int) := by omega
      generalize L[k] = x at *
      have hx' : (x != x) = false := by simp
      go_wp2_with fail
      go_quiet (fail)
      go_wp2
      go_roundw
      case rel => exact ⟨k + 1, by omega, by go_num, hdr.drewN _⟩
      case measure => simp [intOf]; omega
    · obtain rfl : k = L.length := by omega
      go_wp2
      go_ret
      exact ⟨rfl, hdr⟩
/-- the marks set from m on -/
def mkB (m : Int) (n : Nat) : List Bool := (List.range n).map fun (j : Nat) => ((m + (j : Int)) % 3 == 0)
theorem mkB_len (m : Int) (n : Nat) : (mkB m n).length = n := by simp [mkB]
theorem mkB_get (m : Int) (n j : Nat) (h : j < (mkB m n).length) : (mkB m n)[j] = ((m + (j : Int)) % 3 == 0) := by simp [mkB]
theorem markB_set {L : List Bool} {m : Int} {k : Nat} (hk : k < L.length) : (bls (mkB m k ++ L.drop k)).set k (.bool ((m + (k : Int)) % 3 == 0)) = bls (mkB m (k + 1) ++ L.drop (k + 1)) := by
  have e1 : (mkB m k).length = k := mkB_len m k
  rw [List.drop_eq_getElem_cons hk, bls, List.map_append, List.map_cons, List.set_append_right _ _ (by simp [e1]), List.length_map, e1, Nat.sub_self, List.set_cons_zero]
  simp [bls, mkB, List.range_succ]
theorem markBoolS_any (a : Option Addr) (c lo hi : Nat) (m : Int) (L : List Bool) (w : World) (h : Own w lo hi 4 (.slice a L.length c) (bls L)) (hm : 0 ≤ m) (hm2 : m ≤ 1099511627776) (hl : L.length ≤ 1099511627776) :
    Calls Try.prog 50 #[.slice a L.length c, .int .i64 m] w fun e w' => e = .returned (.int .i64 (m + (L.length : Int))) ∧ Own w' lo hi 4 (.slice a L.length c) (bls (mkB m L.length)) ∧ w.grownBy w' (Value.slice a L.length c).ownBlock := by
  go_enter Try.func50, Try.ntmps50
  go_wp2
  go_loopw [1, 5] (fun kk i wr => ∃ k : Nat, k ≤ L.length ∧ i = .int .i64 k ∧ kk = .int .i64 (m + (k : Int)) ∧ w.grownBy wr (Value.slice a L.length c).ownBlock ∧ Own wr lo hi 4 (.slice a L.length c) (bls (mkB m k ++ L.drop k))) (fun _ i _ => L.length - (intOf i).toNat)
  case atStart => exact ⟨0, Nat.zero_le _, rfl, by simp, World.grownBy.refl _ _, by simpa [mkB] using h⟩
  case round =>
    obtain ⟨k, hk, rfl, rfl, hbr, hor⟩ := hrel
    clear h
    by_cases hlt : k < L.length
    · obtain ⟨g, u, rfl, hlo, hhi, hc2, hf2⟩ := hor.spot (k := k) (by simp [mkB_len]; omega)
      have HF := Lib.hid (markB_set (m := m) hlt)
      have HO := Lib.hid hor
      have HR := Lib.hid hbr
      have hmk : 0 ≤ m + (k : Int) := by omega
      clear hor hbr
      go_wp2
      go_roundw
      case rel =>
        have e := HO.out.set k (.bool ((m + (k : Int)) % 3 == 0))
        have hbr := HR.out
        rw [HF.out] at e
        refine ⟨k + 1, by omega, by go_num, by go_num, ?_, e⟩
        exact ⟨hbr.os, hbr.tape, hbr.output, by simpa [World.setCell] using hbr.size, fun q hq hne => (Below.heap_setCell wr _ _ q (by rintro rfl; exact hne (by simp [Value.ownBlock]))).trans (hbr.block q hq hne)⟩
      case measure => simp [intOf]; omega
    · obtain rfl : k = L.length := by omega
      go_wp2
      go_ret
      exact ⟨rfl, by simpa using hor, hbr⟩
theorem heldBoolS_any (a : Option Addr) (c B n : Nat) (m : Int) (w : World) (h : Rd w B a (bls (mkB m n))) (hm : 0 ≤ m) (hm2 : m ≤ 1099511627776) (hl : n ≤ 1099511627776) :
    Calls Try.prog 58 #[.slice a n c, .int .i64 m] w fun e w' => e = .returned (.int .i64 (m + (n : Int))) ∧ w = w' := by
  have hn : (mkB m n).length = n := mkB_len m n
  have HN := Lib.hid hn
  clear hn
  go_enter Try.func58, Try.ntmps58
  go_wp2
  go_loop [1, 5] (fun kk i => ∃ k : Nat, k ≤ n ∧ i = .int .i64 k ∧ kk = .int .i64 (m + (k : Int))) (fun _ i => n - (intOf i).toNat)
  case atStart => exact ⟨0, Nat.zero_le _, rfl, by simp⟩
  case round =>
    obtain ⟨k, hk, rfl, rfl⟩ := hrel
    by_cases hlt : k < n
    · obtain ⟨b1, o1, rfl, -, hc1⟩ := boolRd h (k := k) (by rw [HN.out]; exact hlt)
      rw [mkB_get] at hc1
      have hmk : 0 ≤ m + (k : Int) := by omega
      have hbb : (((m + (k : Int)) % 3 == 0) != ((m + (k : Int)) % 3 == 0)) = false := by simp
      go_wp2
      go_round
      case rel => exact ⟨k + 1, by omega, by go_num, by go_num⟩
      case measure => simp [intOf]; omega
    · obtain rfl : k = n := by omega
      go_wp2
      go_ret
      exact ⟨rfl, rfl⟩
def szM (n m : Nat) : Int := if (1048576 : Int) - (n : Int) < 0 then -1 else if (1048576 : Int) - (n : Int) - (m : Int) < 0 then -1 else (1048576 : Int) - (n : Int) - (m : Int)
theorem szM_ok {n m : Nat} (h : 0 ≤ szM n m) : n + m ≤ 1048576 := by
  unfold szM at h
  split at h
  · omega
  · split at h <;> omega
theorem szIntS_b (a : Option Addr) (c n : Nat) (left : Int) (w : World) (hl : 0 ≤ left ∧ left ≤ 4611686018427387904) (hn : n ≤ 9223372036854775807) :
    Calls Try.prog 36 #[.slice a n c, .int .i64 left] w fun e w' => e = .returned (.int .i64 (if left - (n : Int) < 0 then -1 else left - (n : Int))) ∧ w = w' := by
  by_cases h : left - (n : Int) < 0
  · rw [if_pos h]
    go_enter Try.func36, Try.ntmps36
    go_wp2
    go_ret
    exact ⟨rfl, rfl⟩
  · rw [if_neg h]
    have h' : 0 ≤ left - (n : Int) := by omega
    go_enter Try.func36, Try.ntmps36
    go_wp2
    go_ret
    exact ⟨rfl, rfl⟩
theorem szBoolS_b (a : Option Addr) (c n : Nat) (left : Int) (w : World) (hl : 0 ≤ left ∧ left ≤ 4611686018427387904) (hn : n ≤ 9223372036854775807) :
    Calls Try.prog 37 #[.slice a n c, .int .i64 left] w fun e w' => e = .returned (.int .i64 (if left - (n : Int) < 0 then -1 else left - (n : Int))) ∧ w = w' := by
  by_cases h : left - (n : Int) < 0
  · rw [if_pos h]
    go_enter Try.func37, Try.ntmps37
    go_wp2
    go_ret
    exact ⟨rfl, rfl⟩
  · rw [if_neg h]
    have h' : 0 ≤ left - (n : Int) := by omega
    go_enter Try.func37, Try.ntmps37
    go_wp2
    go_ret
    exact ⟨rfl, rfl⟩
theorem szMarked_any (a1 a2 : Option Addr) (c1 c2 n m : Nat) (w : World) (hn : n ≤ 9223372036854775807) (hm : m ≤ 9223372036854775807) :
    Calls Try.prog 11 #[.agg #[.slice a1 n c1, .slice a2 m c2], .int .i64 1048576] w fun e w' => e = .returned (.int .i64 (szM n m)) ∧ Below w.heap.size w w' := by
  have hbe : Below w.heap.size w (w.alloc (.cells #[.slice a1 n c1, .slice a2 m c2] 25)) := (Below.refl _ _).alloc (Nat.le_refl _) _
  by_cases h : (1048576 : Int) - (n : Int) < 0
  · have HF : Hid (szM n m = -1) := Lib.hid (by unfold szM; rw [if_pos h])
    have HC := Lib.hid (fun w => szIntS_b a1 c1 n 1048576 w (by omega) hn)
    rw [if_pos h] at HC
    clear h
    go_enter Try.func11, Try.ntmps11
    go_wp2_with (go_at_call 36; refine (HC.out _).mono ?_; rintro e w1 ⟨rfl, rfl⟩)
    go_ret
    exact ⟨ret_i64 HF.out.symm, hbe⟩
  · have HC := Lib.hid (fun w => szIntS_b a1 c1 n 1048576 w (by omega) hn)
    rw [if_neg h] at HC
    obtain ⟨l, hl⟩ : ∃ l, l = (1048576 : Int) - (n : Int) := ⟨_, rfl⟩
    have hl0 : 0 ≤ l ∧ l ≤ 1048576 := by omega
    rw [← hl] at HC
    have HCB := Lib.hid (fun w => szBoolS_b a2 c2 m l w (by omega) hm)
    by_cases h2 : l - (m : Int) < 0
    · have HF : Hid (szM n m = -1) := Lib.hid (by unfold szM; rw [if_neg h, ← hl, if_pos h2])
      rw [if_pos h2] at HCB
      clear h h2 hl
      go_enter Try.func11, Try.ntmps11
      go_wp2_with (first
        | (go_at_call 36; refine (HC.out _).mono ?_; rintro e w1 ⟨rfl, rfl⟩)
        | (go_at_call 37; refine (HCB.out _).mono ?_; rintro e w1 ⟨rfl, rfl⟩))
      go_ret
      exact ⟨ret_i64 HF.out.symm, hbe⟩
    · have HF : Hid (szM n m = l - (m : Int)) := Lib.hid (by unfold szM; rw [if_neg h, ← hl, if_neg h2])
      rw [if_neg h2] at HCB
      have h2' : 0 ≤ l - (m : Int) := by omega
      clear h h2 hl
      go_enter Try.func11, Try.ntmps11
      go_wp2_with (first
        | (go_at_call 36; refine (HC.out _).mono ?_; rintro e w1 ⟨rfl, rfl⟩)
        | (go_at_call 37; refine (HCB.out _).mono ?_; rintro e w1 ⟨rfl, rfl⟩))
      go_ret
      exact ⟨ret_i64 HF.out.symm, hbe⟩
theorem T_mkL : (Try.prog.info? 28).map (·.size) = some 2 := by kernel_rfl
set_option maxHeartbeats 1000000 in
theorem toMarked_any (a1 a2 : Option Addr) (c1 c2 B1 B2 : Nat) (L : List Int) (bs : List Bool) (w : World) (h1 : Rd w B1 a1 (ints L)) (h2 : Rd w B2 a2 (bls bs)) (hB1 : B1 ≤ w.heap.size) (hB2 : B2 ≤ w.heap.size) (hl1 : L.length ≤ 1048576) (hl2 : bs.length ≤ 1048576) :
    Calls Try.prog 13 #[.agg #[.slice a1 L.length c1, .slice a2 bs.length c2]] w fun e w' => ∃ b1 b2 m, e = .returned (.agg #[.slice b1 L.length L.length, .slice b2 bs.length bs.length]) ∧ w.heap.size ≤ m ∧ m ≤ w'.heap.size ∧ Own w' w.heap.size m 3 (.slice b1 L.length L.length) (ints L) ∧ Own w' m w'.heap.size 4 (.slice b2 bs.length bs.length) (bls bs) ∧ Below w.heap.size w w' := by
  have hmu := Try.underlying28
  have hi2 : (Try.prog.info? 28).map (·.size) = some 2 := T_mkL
  have hA0 : Below w.heap.size w (((w.alloc (.cells #[.slice a1 L.length c1, .slice a2 bs.length c2] 25)).alloc (.cells #[.slice none 0 0, .slice none 0 0] 28)).alloc (.cells #[.slice none 0 0, .slice none 0 0] 28)) := (((Below.refl _ _).alloc (Nat.le_refl _) _).alloc (by simp) _).alloc (by simp; omega) _
  have hb0 := ((Blk.new w 25 #[.slice a1 L.length c1, .slice a2 bs.length c2]).alloc (.cells #[.slice none 0 0, .slice none 0 0] 28)).alloc (.cells #[.slice none 0 0, .slice none 0 0] 28)
  have hr0 : Blk (((w.alloc (.cells #[.slice a1 L.length c1, .slice a2 bs.length c2] 25)).alloc (.cells #[.slice none 0 0, .slice none 0 0] 28)).alloc (.cells #[.slice none 0 0, .slice none 0 0] 28)) (w.heap.size + 1) 28 #[.slice none 0 0, .slice none 0 0] := by
    have e := (Blk.new (w.alloc (.cells #[.slice a1 L.length c1, .slice a2 bs.length c2] 25)) 28 #[.slice none 0 0, .slice none 0 0]).alloc (.cells #[.slice none 0 0, .slice none 0 0] 28)
    rw [World.size_alloc] at e
    exact e
  have ho0 : Blk (((w.alloc (.cells #[.slice a1 L.length c1, .slice a2 bs.length c2] 25)).alloc (.cells #[.slice none 0 0, .slice none 0 0] 28)).alloc (.cells #[.slice none 0 0, .slice none 0 0] 28)) (w.heap.size + 2) 28 #[.slice none 0 0, .slice none 0 0] := by
    have e := Blk.new ((w.alloc (.cells #[.slice a1 L.length c1, .slice a2 bs.length c2] 25)).alloc (.cells #[.slice none 0 0, .slice none 0 0] 28)) 28 #[.slice none 0 0, .slice none 0 0]
    rw [World.size_alloc, World.size_alloc] at e
    exact e
  obtain ⟨W, hW⟩ : ∃ W, ((w.alloc (.cells #[.slice a1 L.length c1, .slice a2 bs.length c2] 25)).alloc (.cells #[.slice none 0 0, .slice none 0 0] 28)).alloc (.cells #[.slice none 0 0, .slice none 0 0] 28) = W := ⟨_, rfl⟩
  have hWs : w.heap.size + 3 = W.heap.size := by rw [← hW]; simp
  rw [hW] at hA0 hb0 hr0 ho0
  have HWS := Lib.hid hWs
  have hm1 : W.cell? ⟨w.heap.size, 0, none⟩ = some (.slice a1 L.length c1) := hb0.cell 0
  have hR1 := (h1.more hB1).below hA0
  have h2b := h2
  have hws : w.heap.size ≤ W.heap.size := by omega
  clear hWs h1 h2
  go_enter Try.func13, Try.ntmps13
  go_wp2_with (first
    | (go_at_call 30; refine (toIntS_any a1 c1 w.heap.size L W hR1 hws hl1).mono ?_; rintro e w1 ⟨b1, rfl, ho1, hb1⟩; have hz1 := hb1.size; have hr1 := hr0.below hb1 hr0.lt; have hq1 := ho0.below hb1 ho0.lt; have hx1 := hb0.below hb1 hb0.lt; have hm2 : w1.cell? ⟨w.heap.size, 1, none⟩ = some (.slice a2 bs.length c2) := hx1.cell 1; have hc1 : w1.cell? ⟨w.heap.size + 2, 0, none⟩ = some (.slice none 0 0) := hq1.cell 0; have hf1 : w1.frozen? ⟨w.heap.size + 2, 0, none⟩ = false := hq1.free 0; have HO1 := Lib.hid ho1; clear ho1)
    | (go_at_call 39; generalize hw2 : w1.setCell _ _ = w2; have hq2 : Blk w2 (w.heap.size + 2) 28 #[.slice b1 L.length L.length, .slice none 0 0] := hw2 ▸ hq1.set 0 (.slice b1 L.length L.length); have hr2 : Blk w2 (w.heap.size + 1) 28 #[.slice none 0 0, .slice none 0 0] := hw2 ▸ hr1.off (show w.heap.size + 1 ≠ w.heap.size + 2 by omega) _; have hbe2 : Below w.heap.size w w2 := hw2 ▸ (hA0.trans (hb1.mono hws)).setCell (show w.heap.size ≤ w.heap.size + 2 by omega) _; have hz2 : w2.heap.size = w1.heap.size := (by rw [← hw2]; simp [World.setCell]); (have ho2 : Own w2 W.heap.size w1.heap.size 3 (.slice b1 L.length L.length) (ints L) := hw2 ▸ HO1.out.keep (by simp [World.setCell]) (fun g hg => Below.heap_setCell _ _ _ g (by have h1 := HO1.out.base g hg; have h2 := HWS.out; show g ≠ w.heap.size + 2; omega))); have HO2 := Lib.hid ho2; clear ho2 hw2; refine (toBoolS_any a2 c2 w.heap.size bs w2 ((h2b.more hB2).below hbe2) hbe2.size hl2).mono ?_; rintro e w3 ⟨b2, rfl, ho3, hb3⟩; have HO3 := Lib.hid ho3; have hq3 := hq2.below hb3 hq2.lt; have hr3 := hr2.below hb3 hr2.lt; have hz3 := hb3.size; have hc3 : w3.cell? ⟨w.heap.size + 2, 1, none⟩ = some (.slice none 0 0) := hq3.cell 1; have hf3 : w3.frozen? ⟨w.heap.size + 2, 1, none⟩ = false := hq3.free 1; have hq4 : Blk (w3.setCell ⟨w.heap.size + 2, 1, none⟩ (.slice b2 bs.length bs.length)) (w.heap.size + 2) 28 #[.slice b1 L.length L.length, .slice b2 bs.length bs.length] := hq3.set 1 (.slice b2 bs.length bs.length); have hr4 : Blk (w3.setCell ⟨w.heap.size + 2, 1, none⟩ (.slice b2 bs.length bs.length)) (w.heap.size + 1) 28 #[.slice none 0 0, .slice none 0 0] := hr3.off (show w.heap.size + 1 ≠ w.heap.size + 2 by omega) _; clear ho3)
    | (refine wpList_load_row rfl 28 (.tmp 3) rfl (w.heap.size + 2) rfl 28 #[.slice b1 L.length L.length, .slice b2 bs.length bs.length] (0, 0) _ hq4 hmu rfl hi2 ?_)
    | (refine wpList_store_row rfl 28 (.tmp 2) (.tmp 12) rfl (w.heap.size + 1) rfl #[.slice b1 L.length L.length, .slice b2 bs.length bs.length] rfl 28 _ hr4 hi2 rfl (by simp [Value.oneCell']) ?_))
  refine bodyPost_ret (results_cell_row rfl _ _ (w.heap.size + 1) 28 #[.slice b1 L.length L.length, .slice b2 bs.length bs.length] (0, 0) _ rfl hr4.row hmu rfl hi2) rfl ?_
  have hW9 := HWS.out
  have hb4 : Below w.heap.size w (w3.setCell ⟨w.heap.size + 2, 1, none⟩ (.slice b2 bs.length bs.length)) := (hbe2.trans (hb3.mono hbe2.size)).setCell (show w.heap.size ≤ w.heap.size + 2 by omega) _
  have hb5 := below_setRow' hb4 (show w.heap.size ≤ w.heap.size + 1 by omega) #[.slice b1 L.length L.length, .slice b2 bs.length bs.length]
  refine ⟨b1, b2, w1.heap.size, rfl, by omega, by simpa [World.setCell] using (show w1.heap.size ≤ w3.heap.size by omega), ?_, ?_, hb5⟩
  · refine ((HO2.out.below (hb3.mono (by omega))).keep (by simp [World.setCell]) (fun g hg => ?_)).lower hws
    have h1 := HO1.out.base g hg
    exact (setRow_other _ _ _ _ (by omega)).trans (Below.heap_setCell _ _ _ g (show g ≠ w.heap.size + 2 by omega))
  · have e := HO3.out.keep (w' := (w3.setCell ⟨w.heap.size + 2, 1, none⟩ (.slice b2 bs.length bs.length)).setRow (w.heap.size + 1) #[.slice b1 L.length L.length, .slice b2 bs.length bs.length]) (by simp [World.setCell]) (fun g hg => by
      have h1 := HO3.out.base g hg
      exact (setRow_other _ _ _ _ (by omega)).trans (Below.heap_setCell _ _ _ g (show g ≠ w.heap.size + 2 by omega)))
    rw [hz2] at e
    simpa [World.setCell] using e
set_option maxHeartbeats 1000000 in
theorem eqMarked_same (a1 a2 b1 b2 : Option Addr) (ca1 ca2 cb1 cb2 A1 A2 B1 B2 : Nat) (L : List Int) (bs : List Bool) (w : World) (h1 : Rd w A1 a1 (ints L)) (h2 : Rd w A2 a2 (bls bs)) (k1 : Rd w B1 b1 (ints L)) (k2 : Rd w B2 b2 (bls bs)) (hA1 : A1 ≤ w.heap.size) (hA2 : A2 ≤ w.heap.size) (hB1 : B1 ≤ w.heap.size) (hB2 : B2 ≤ w.heap.size) (hl1 : L.length ≤ 4611686018427387904) (hl2 : bs.length ≤ 4611686018427387904) :
    Calls Try.prog 15 #[.agg #[.slice a1 L.length ca1, .slice a2 bs.length ca2], .agg #[.slice b1 L.length cb1, .slice b2 bs.length cb2]] w fun e w' => e = .returned (.bool true) ∧ Below w.heap.size w w' := by
  have hA0 : Below w.heap.size w ((w.alloc (.cells #[.slice a1 L.length ca1, .slice a2 bs.length ca2] 28)).alloc (.cells #[.slice b1 L.length cb1, .slice b2 bs.length cb2] 28)) := ((Below.refl _ _).alloc (Nat.le_refl _) _).alloc (by simp) _
  have hx0 := (Blk.new w 28 #[.slice a1 L.length ca1, .slice a2 bs.length ca2]).alloc (.cells #[.slice b1 L.length cb1, .slice b2 bs.length cb2] 28)
  have hy0 := Blk.new (w.alloc (.cells #[.slice a1 L.length ca1, .slice a2 bs.length ca2] 28)) 28 #[.slice b1 L.length cb1, .slice b2 bs.length cb2]
  rw [World.size_alloc] at hy0
  obtain ⟨W, hW⟩ : ∃ W, (w.alloc (.cells #[.slice a1 L.length ca1, .slice a2 bs.length ca2] 28)).alloc (.cells #[.slice b1 L.length cb1, .slice b2 bs.length cb2] 28) = W := ⟨_, rfl⟩
  rw [hW] at hA0 hx0 hy0
  have m1 : W.cell? ⟨w.heap.size, 0, none⟩ = some (.slice a1 L.length ca1) := hx0.cell 0
  have m2 : W.cell? ⟨w.heap.size, 1, none⟩ = some (.slice a2 bs.length ca2) := hx0.cell 1
  have m3 : W.cell? ⟨w.heap.size + 1, 0, none⟩ = some (.slice b1 L.length cb1) := hy0.cell 0
  have m4 : W.cell? ⟨w.heap.size + 1, 1, none⟩ = some (.slice b2 bs.length cb2) := hy0.cell 1
  have H1 := Lib.hid ((h1.more hA1).below hA0)
  have K1 := Lib.hid ((k1.more hB1).below hA0)
  have H2 := Lib.hid ((h2.more hA2).below hA0)
  have K2 := Lib.hid ((k2.more hB2).below hA0)
  clear h1 h2 k1 k2 hx0 hy0
  go_enter Try.func15, Try.ntmps15
  go_wp2_with (first
    | (go_at_call 21; refine (eqIntS_same a1 b1 ca1 cb1 _ _ L W H1.out K1.out hl1).mono ?_; rintro e w1 ⟨rfl, n1, rfl⟩)
    | (go_at_call 41; refine (eqBoolS_same a2 b2 ca2 cb2 _ _ bs _ (H2.out.dr (Dr.n W n1)) (K2.out.dr (Dr.n W n1)) hl2).mono ?_; rintro e w2 ⟨rfl, hd2⟩))
  go_ret
  exact ⟨rfl, (hA0.trans ((Dr.n W n1).below _)).trans (hd2.below _)⟩
set_option maxHeartbeats 1000000 in
theorem markMarked_any (a1 a2 : Option Addr) (c1 c2 lo hi lo1 hi1 lo2 hi2 : Nat) (m : Int) (L : List Int) (bs : List Bool) (w : World) (h1 : Own w lo1 hi1 3 (.slice a1 L.length c1) (ints L)) (h2 : Own w lo2 hi2 4 (.slice a2 bs.length c2) (bls bs)) (hd : hi1 ≤ lo2 ∨ hi2 ≤ lo1) (g1 : lo ≤ lo1) (g2 : lo ≤ lo2) (g3 : hi1 ≤ hi) (g4 : hi2 ≤ hi) (g5 : hi ≤ w.heap.size) (g6 : lo ≤ hi) (hm : 0 ≤ m) (hm2 : m ≤ 1073741824) (hl1 : L.length ≤ 1073741824) (hl2 : bs.length ≤ 1073741824) :
    Calls Try.prog 22 #[.agg #[.slice a1 L.length c1, .slice a2 bs.length c2], .int .i64 m] w fun e w' => e = .returned (.int .i64 (m + (L.length : Int) + (bs.length : Int))) ∧ Own w' lo1 hi1 3 (.slice a1 L.length c1) (ints (marks m L.length)) ∧ Own w' lo2 hi2 4 (.slice a2 bs.length c2) (bls (mkB (m + (L.length : Int)) bs.length)) ∧ Below lo w w' ∧ Aside lo hi w w' := by
  have hlh : lo ≤ w.heap.size := Nat.le_trans g6 g5
  have hA0 : Aside lo hi w (w.alloc (.cells #[.slice a1 L.length c1, .slice a2 bs.length c2] 28)) := (Aside.refl lo hi w).alloc _
  have hB0 : Below lo w (w.alloc (.cells #[.slice a1 L.length c1, .slice a2 bs.length c2] 28)) := (Below.refl _ _).alloc hlh _
  have hx0 := Blk.new w 28 #[.slice a1 L.length c1, .slice a2 bs.length c2]
  have o1 := h1.alloc (.cells #[.slice a1 L.length c1, .slice a2 bs.length c2] 28)
  have o2 := h2.alloc (.cells #[.slice a1 L.length c1, .slice a2 bs.length c2] 28)
  have hh1 := h1.le
  have hh2 := h2.le
  obtain ⟨W, hW⟩ : ∃ W, w.alloc (.cells #[.slice a1 L.length c1, .slice a2 bs.length c2] 28) = W := ⟨_, rfl⟩
  rw [hW] at hA0 hB0 hx0 o1 o2
  have m1 : W.cell? ⟨w.heap.size, 0, none⟩ = some (.slice a1 L.length c1) := hx0.cell 0
  have O1 := Lib.hid o1
  have O2 := Lib.hid o2
  clear h1 h2 o1 o2
  go_enter Try.func22, Try.ntmps22
  go_wp2_with (first
    | (go_at_call 23; (refine (markIntS_any a1 c1 lo1 hi1 m L W O1.out hm (by omega) (by omega)).mono ?_; rintro e w1 ⟨rfl, p1, hg1⟩; have P1 := Lib.hid p1; have hx1 : Blk w1 w.heap.size 28 #[.slice a1 L.length c1, .slice a2 bs.length c2] := hx0.grown hg1 (fun e => by have := O1.out.lt _ e.symm; omega); have m2 : w1.cell? ⟨w.heap.size, 1, none⟩ = some (.slice a2 bs.length c2) := hx1.cell 1; have P2 := Lib.hid (O2.out.grown hg1 (by cases hb : Value.ownBlock (.slice a2 bs.length c2) with | none => exact .inl rfl | some g => exact .inr fun e => by have q1 := O1.out.lt g e.symm; have q2 := O1.out.base g e.symm; have q3 := O2.out.lt g hb; have q4 := O2.out.base g hb; omega)); have hA1 := hA0.grown (O1.out.wide g1 g3 (by have := hA0.1; omega)) hg1; have hB1 := hB0.grown hg1 (Nat.le_trans hlh hA0.1) (fun g hg => Nat.le_trans g1 (O1.out.base g hg)); clear p1 hg1))
    | (go_at_call 50; refine (markBoolS_any a2 c2 lo2 hi2 (m + (L.length : Int)) bs w1 P2.out (by omega) (by omega) (by omega)).mono ?_; rintro e w2 ⟨rfl, p2, hg2⟩; have Q2 := Lib.hid p2; have Q1 := Lib.hid (P1.out.grown hg2 (by cases hb : Value.ownBlock (.slice a1 L.length c1) with | none => exact .inl rfl | some g => exact .inr fun e => by have q1 := P2.out.lt g e.symm; have q2 := P2.out.base g e.symm; have q3 := P1.out.lt g hb; have q4 := P1.out.base g hb; omega)); have hA2 := hA1.grown (P2.out.wide g2 g4 (by have := hA1.1; omega)) hg2; have hB2 := hB1.grown hg2 (Nat.le_trans hlh hA1.1) (fun g hg => Nat.le_trans g2 (P2.out.base g hg)); clear p2 hg2))
  go_ret
  exact ⟨rfl, Q1.out, Q2.out, hB2, hA2⟩
set_option maxHeartbeats 1000000 in
theorem heldMarked_any (a1 a2 : Option Addr) (c1 c2 B1 B2 n1 n2 : Nat) (m : Int) (w : World) (h1 : Rd w B1 a1 (ints (marks m n1))) (h2 : Rd w B2 a2 (bls (mkB (m + (n1 : Int)) n2))) (hB1 : B1 ≤ w.heap.size) (hB2 : B2 ≤ w.heap.size) (hm : 0 ≤ m) (hm2 : m ≤ 1073741824) (hl1 : n1 ≤ 1073741824) (hl2 : n2 ≤ 1073741824) :
    Calls Try.prog 31 #[.agg #[.slice a1 n1 c1, .slice a2 n2 c2], .int .i64 m] w fun e w' => e = .returned (.int .i64 (m + (n1 : Int) + (n2 : Int))) ∧ Below w.heap.size w w' := by
  have hA0 : Below w.heap.size w (w.alloc (.cells #[.slice a1 n1 c1, .slice a2 n2 c2] 28)) := (Below.refl _ _).alloc (Nat.le_refl _) _
  have H1 := Lib.hid ((h1.more hB1).below hA0)
  have H2 := Lib.hid ((h2.more hB2).below hA0)
  have d1 : 0 ≤ m + (n1 : Int) := by omega
  have d2 : 0 ≤ m + (n1 : Int) + (n2 : Int) := by omega
  clear h1 h2
  go_enter Try.func31, Try.ntmps31
  go_wp2_with (first
    | (go_at_call 24; refine (heldIntS_any a1 c1 _ n1 m _ H1.out hm (by omega) (by omega)).mono ?_; rintro e w1 ⟨rfl, rfl⟩)
    | (go_at_call 58; refine (heldBoolS_any a2 c2 _ n2 (m + (n1 : Int)) _ H2.out (by omega) (by omega) (by omega)).mono ?_; rintro e w1 ⟨rfl, rfl⟩))
  go_ret
  exact ⟨rfl, hA0⟩
end Go.Proofs.Ytbbbfaollcklkaa
