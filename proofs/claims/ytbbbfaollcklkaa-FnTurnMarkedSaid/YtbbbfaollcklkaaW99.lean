/-
  Walks: the draws of marked parts, and the laws' comparison of marked parts.
-/
import Derived.Test.YtbbbfaollcklkaaD20
import Derived.Test.YtbbbfaollcklkaaLB
import Derived.BigQuiet
namespace Go.Proofs.Ytbbbfaollcklkaa
open Go.RowKit NP
set_option maxRecDepth 100000
set_option linter.unusedVariables false
set_option linter.unusedSimpArgs false
set_option maxHeartbeats 1600000 in
theorem DrawTurnMarked_any (a : Option Addr) (c B : Nat) (bs : List Int) (w : World) (h : Rd w B a (bs.map (Value.int .u8))) (hB : B ≤ w.heap.size) (hb : ∀ n ∈ bs, (Lit.int .u8 n).wf = true) (hl : bs.length ≤ 1048576) (hc : bs.length ≤ c) :
    Calls Try.prog 35 #[.slice a bs.length c] w fun e w' => ∃ L T a1 a2 c1 c2, e = .returned (.agg #[.slice a1 L.length c1, .slice a2 T.length c2]) ∧ (Rd w' w'.heap.size a1 (ints L) ∧ Rd w' w'.heap.size a2 (bls T)) ∧ L.length ≤ 40 ∧ T.length ≤ 17 ∧ Below w.heap.size w w' := by
  have hmu := Try.underlying28
  have hi2 : (Try.prog.info? 28).map (·.size) = some 2 := T_mkL
  have hA0 : Below w.heap.size w (w.alloc (.cells #[.slice none 0 0, .slice none 0 0] 28)) := (Below.refl _ _).alloc (Nat.le_refl _) _
  have hr0 := Blk.new w 28 #[.slice none 0 0, .slice none 0 0]
  have hz0 : (w.alloc (.cells #[.slice none 0 0, .slice none 0 0] 28)).heap.size = w.heap.size + 1 := by simp
  obtain ⟨W, hW⟩ : ∃ W, (w.alloc (.cells #[.slice none 0 0, .slice none 0 0] 28)) = W := ⟨_, rfl⟩
  rw [hW] at hA0 hr0 hz0
  have h0 := (h.more hB).below hA0
  go_enter Try.func35, Try.ntmps35
  go_wp2_with fail
  refine (newReader_any _ _ w.heap.size bs _ h0 (by omega) hb hl hc).mono ?_
  rintro e w1 ⟨rfl, h1, hb1, -⟩
  rw [hz0] at h1 hb1
  have hr1 := hr0.below hb1 (by omega)
  have hz1 := hb1.size
  go_wp2_with fail
  refine (someMarked_loop _ 0 _ _ (by omega) h1).mono ?_
  rintro e w2 ⟨L, T, a1, a2, c1, c2, rfl, ⟨o1, o2⟩, hl1, hl2, hb2⟩
  have hr2 := hr1.below hb2 (by omega)
  have hz2 := hb2.size
  have hbf := hA0.trans ((hb1.trans hb2).mono (by omega))
  have O1 := Lib.hid o1
  have O2 := Lib.hid o2
  have HBF := Lib.hid hbf
  clear h h0 h1 hb hA0 hr0 hr1 hb1 hb2 o1 o2 hbf hB hl hc
  go_wp2_with (refine wpList_store_row rfl 28 (.tmp 2) (.tmp 5) rfl w.heap.size rfl #[.slice a1 L.length c1, .slice a2 T.length c2] rfl 28 _ hr2 hi2 rfl (by simp [Value.oneCell']) ?_)
  refine bodyPost_ret (results_cell_row rfl _ _ w.heap.size 28 #[.slice a1 L.length c1, .slice a2 T.length c2] (0, 0) _ rfl hr2.row hmu rfl hi2) rfl ?_
  have e := fin_marked (vs := #[.slice a1 L.length c1, .slice a2 T.length c2]) O1.out O2.out (B := w.heap.size) (by omega) (by omega)
  exact ⟨L, T, a1, a2, c1, c2, rfl, ⟨e.1.rd, e.2.rd⟩, hl1, hl2, below_setRow' HBF.out (Nat.le_refl _) _⟩
set_option maxHeartbeats 1600000 in
theorem DrawValidMarked_any (a : Option Addr) (c B : Nat) (bs : List Int) (w : World) (h : Rd w B a (bs.map (Value.int .u8))) (hB : B ≤ w.heap.size) (hb : ∀ n ∈ bs, (Lit.int .u8 n).wf = true) (hl : bs.length ≤ 1048576) (hc : bs.length ≤ c) :
    Calls Try.prog 16 #[.slice a bs.length c] w fun e w' => ∃ L T a1 a2 c1 c2, e = .returned (.agg #[.slice a1 L.length c1, .slice a2 T.length c2]) ∧ (Rd w' w'.heap.size a1 (ints L) ∧ Rd w' w'.heap.size a2 (bls T)) ∧ L.length ≤ 40 ∧ T.length ≤ 17 ∧ Below w.heap.size w w' := by
  have hmu := Try.underlying28
  have hi2 : (Try.prog.info? 28).map (·.size) = some 2 := T_mkL
  have hA0 : Below w.heap.size w (w.alloc (.cells #[.slice none 0 0, .slice none 0 0] 28)) := (Below.refl _ _).alloc (Nat.le_refl _) _
  have hr0 := Blk.new w 28 #[.slice none 0 0, .slice none 0 0]
  have hz0 : (w.alloc (.cells #[.slice none 0 0, .slice none 0 0] 28)).heap.size = w.heap.size + 1 := by simp
  obtain ⟨W, hW⟩ : ∃ W, (w.alloc (.cells #[.slice none 0 0, .slice none 0 0] 28)) = W := ⟨_, rfl⟩
  rw [hW] at hA0 hr0 hz0
  have h0 := (h.more hB).below hA0
  go_enter Try.func16, Try.ntmps16
  go_wp2_with fail
  refine (newReader_any _ _ w.heap.size bs _ h0 (by omega) hb hl hc).mono ?_
  rintro e w1 ⟨rfl, h1, hb1, -⟩
  rw [hz0] at h1 hb1
  have hr1 := hr0.below hb1 (by omega)
  have hz1 := hb1.size
  go_wp2_with fail
  refine (someMarked_loop _ 0 _ _ (by omega) h1).mono ?_
  rintro e w2 ⟨L, T, a1, a2, c1, c2, rfl, ⟨o1, o2⟩, hl1, hl2, hb2⟩
  have hr2 := hr1.below hb2 (by omega)
  have hz2 := hb2.size
  have hbf := hA0.trans ((hb1.trans hb2).mono (by omega))
  have O1 := Lib.hid o1
  have O2 := Lib.hid o2
  have HBF := Lib.hid hbf
  clear h h0 h1 hb hA0 hr0 hr1 hb1 hb2 o1 o2 hbf hB hl hc
  go_wp2_with (refine wpList_store_row rfl 28 (.tmp 2) (.tmp 5) rfl w.heap.size rfl #[.slice a1 L.length c1, .slice a2 T.length c2] rfl 28 _ hr2 hi2 rfl (by simp [Value.oneCell']) ?_)
  refine bodyPost_ret (results_cell_row rfl _ _ w.heap.size 28 #[.slice a1 L.length c1, .slice a2 T.length c2] (0, 0) _ rfl hr2.row hmu rfl hi2) rfl ?_
  have e := fin_marked (vs := #[.slice a1 L.length c1, .slice a2 T.length c2]) O1.out O2.out (B := w.heap.size) (by omega) (by omega)
  exact ⟨L, T, a1, a2, c1, c2, rfl, ⟨e.1.rd, e.2.rd⟩, hl1, hl2, below_setRow' HBF.out (Nat.le_refl _) _⟩
set_option maxHeartbeats 1600000 in
theorem DrawSplitMarked_any (a : Option Addr) (c B : Nat) (bs : List Int) (w : World) (h : Rd w B a (bs.map (Value.int .u8))) (hB : B ≤ w.heap.size) (hb : ∀ n ∈ bs, (Lit.int .u8 n).wf = true) (hl : bs.length ≤ 1048576) (hc : bs.length ≤ c) :
    Calls Try.prog 25 #[.slice a bs.length c] w fun e w' => ∃ L T a1 a2 c1 c2, e = .returned (.agg #[.slice a1 L.length c1, .slice a2 T.length c2]) ∧ (Rd w' w'.heap.size a1 (ints L) ∧ Rd w' w'.heap.size a2 (bls T)) ∧ L.length ≤ 40 ∧ T.length ≤ 17 ∧ Below w.heap.size w w' := by
  have hmu := Try.underlying28
  have hi2 : (Try.prog.info? 28).map (·.size) = some 2 := T_mkL
  have hA0 : Below w.heap.size w (w.alloc (.cells #[.slice none 0 0, .slice none 0 0] 28)) := (Below.refl _ _).alloc (Nat.le_refl _) _
  have hr0 := Blk.new w 28 #[.slice none 0 0, .slice none 0 0]
  have hz0 : (w.alloc (.cells #[.slice none 0 0, .slice none 0 0] 28)).heap.size = w.heap.size + 1 := by simp
  obtain ⟨W, hW⟩ : ∃ W, (w.alloc (.cells #[.slice none 0 0, .slice none 0 0] 28)) = W := ⟨_, rfl⟩
  rw [hW] at hA0 hr0 hz0
  have h0 := (h.more hB).below hA0
  go_enter Try.func25, Try.ntmps25
  go_wp2_with fail
  refine (newReader_any _ _ w.heap.size bs _ h0 (by omega) hb hl hc).mono ?_
  rintro e w1 ⟨rfl, h1, hb1, -⟩
  rw [hz0] at h1 hb1
  have hr1 := hr0.below hb1 (by omega)
  have hz1 := hb1.size
  go_wp2_with fail
  refine (someMarked_loop _ 0 _ _ (by omega) h1).mono ?_
  rintro e w2 ⟨L, T, a1, a2, c1, c2, rfl, ⟨o1, o2⟩, hl1, hl2, hb2⟩
  have hr2 := hr1.below hb2 (by omega)
  have hz2 := hb2.size
  have hbf := hA0.trans ((hb1.trans hb2).mono (by omega))
  have O1 := Lib.hid o1
  have O2 := Lib.hid o2
  have HBF := Lib.hid hbf
  clear h h0 h1 hb hA0 hr0 hr1 hb1 hb2 o1 o2 hbf hB hl hc
  go_wp2_with (refine wpList_store_row rfl 28 (.tmp 2) (.tmp 5) rfl w.heap.size rfl #[.slice a1 L.length c1, .slice a2 T.length c2] rfl 28 _ hr2 hi2 rfl (by simp [Value.oneCell']) ?_)
  refine bodyPost_ret (results_cell_row rfl _ _ w.heap.size 28 #[.slice a1 L.length c1, .slice a2 T.length c2] (0, 0) _ rfl hr2.row hmu rfl hi2) rfl ?_
  have e := fin_marked (vs := #[.slice a1 L.length c1, .slice a2 T.length c2]) O1.out O2.out (B := w.heap.size) (by omega) (by omega)
  exact ⟨L, T, a1, a2, c1, c2, rfl, ⟨e.1.rd, e.2.rd⟩, hl1, hl2, below_setRow' HBF.out (Nat.le_refl _) _⟩
set_option maxHeartbeats 1000000 in
theorem equalMarked_same (a1 a2 b1 b2 : Option Addr) (ca1 ca2 cb1 cb2 A1 A2 B1 B2 : Nat) (L : List Int) (bs : List Bool) (w : World) (h1 : Rd w A1 a1 (ints L)) (h2 : Rd w A2 a2 (bls bs)) (k1 : Rd w B1 b1 (ints L)) (k2 : Rd w B2 b2 (bls bs)) (hA1 : A1 ≤ w.heap.size) (hA2 : A2 ≤ w.heap.size) (hB1 : B1 ≤ w.heap.size) (hB2 : B2 ≤ w.heap.size) (hl1 : L.length ≤ 4611686018427387904) (hl2 : bs.length ≤ 4611686018427387904) :
    Calls Try.prog 19 #[.agg #[.slice a1 L.length ca1, .slice a2 bs.length ca2], .agg #[.slice b1 L.length cb1, .slice b2 bs.length cb2]] w fun e w' => e = .returned (.bool true) ∧ Below w.heap.size w w' := by
  have hA0 : Below w.heap.size w ((w.alloc (.cells #[.slice a1 L.length ca1, .slice a2 bs.length ca2] 28)).alloc (.cells #[.slice b1 L.length cb1, .slice b2 bs.length cb2] 28)) := ((Below.refl _ _).alloc (Nat.le_refl _) _).alloc (by simp) _
  have hx0 := (Blk.new w 28 #[.slice a1 L.length ca1, .slice a2 bs.length ca2]).alloc (.cells #[.slice b1 L.length cb1, .slice b2 bs.length cb2] 28)
  have hy0 := Blk.new (w.alloc (.cells #[.slice a1 L.length ca1, .slice a2 bs.length ca2] 28)) 28 #[.slice b1 L.length cb1, .slice b2 bs.length cb2]
  rw [World.size_alloc] at hy0
  obtain ⟨W, hW⟩ : ∃ W, (w.alloc (.cells #[.slice a1 L.length ca1, .slice a2 bs.length ca2] 28)).alloc (.cells #[.slice b1 L.length cb1, .slice b2 bs.length cb2] 28) = W := ⟨_, rfl⟩
  rw [hW] at hA0 hx0 hy0
  have m1 : W.cell? ⟨w.heap.size, 0, none⟩ = some (.slice a1 L.length ca1) := hx0.cell 0
  have m2 : W.cell? ⟨w.heap.size, 1, none⟩ = some (.slice a2 bs.length ca2) := hx0.cell 1
  have m3 : W.cell? ⟨w.heap.size + 1, 0, none⟩ = some (.slice b1 L.length cb1) := hy0.cell 0
  have m4 : W.cell? ⟨w.heap.size + 1, 1, none⟩ = some (.slice b2 bs.length cb2) := hy0.cell 1
  have H1 := Lib.hid ((h1.more hA1).below hA0)
  have K1 := Lib.hid ((k1.more hB1).below hA0)
  have H2 := Lib.hid ((h2.more hA2).below hA0)
  have K2 := Lib.hid ((k2.more hB2).below hA0)
  have hne : ((bs.length : Int) != (bs.length : Int)) = false := by simp
  clear h1 h2 k1 k2 hx0 hy0
  go_enter Try.func19, Try.ntmps19
  go_wp2_with (go_at_call 26; refine (equalInts_same a1 b1 ca1 cb1 _ _ L W H1.out K1.out hl1).mono ?_; rintro e w1 ⟨rfl, hd1⟩; obtain ⟨n9, rfl⟩ := hd1)
  go_loopw [5] (fun i wr => ∃ k : Nat, k ≤ bs.length ∧ i = .int .i64 k ∧ Dr W wr) (fun i _ => bs.length - (intOf i).toNat)
  case atStart => exact ⟨0, Nat.zero_le _, rfl, Dr.n _ _⟩
  case round =>
    obtain ⟨k, hk, rfl, hdr⟩ := hrel
    have q2 : wr.cell? ⟨w.heap.size, 1, none⟩ = some (.slice a2 bs.length ca2) := by obtain ⟨n, rfl⟩ := hdr; exact m2
    have q4 : wr.cell? ⟨w.heap.size + 1, 1, none⟩ = some (.slice b2 bs.length cb2) := by obtain ⟨n, rfl⟩ := hdr; exact m4
    clear m1 m3 hne
    by_cases hlt : k < bs.length
    · obtain ⟨x1, o1, rfl, -, hc1⟩ := boolRd (H2.out.dr hdr) hlt
      obtain ⟨x2, o2, rfl, -, hc2⟩ := boolRd (K2.out.dr hdr) hlt
      have hlt' : (k : Int) < (bs.length : Int) := by omega
      generalize bs[k] = x at *
      have hx' : (x != x) = false := by simp
      go_wp2_with fail
      go_quiet (fail)
      go_wp2_with fail
      go_roundw
      case rel => exact ⟨k + 1, by omega, by go_num, hdr.drewN _⟩
      case measure => simp [intOf]; omega
    · obtain rfl : k = bs.length := by omega
      go_wp2_with fail
      go_ret
      exact ⟨rfl, hA0.trans (hdr.below _)⟩
end Go.Proofs.Ytbbbfaollcklkaa
