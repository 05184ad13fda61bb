/-
  Walks: the reader that draws the arguments of a law: newReader, pick, one.
-/
import Derived.Test.YtmlomapifldlpaaDoorProg
import Derived.Test.YtmlomapifldlpaaDoorMath
import Derived.Test.YtmlomapifldlpaaDoorArr
import Derived.Deep.QuietTactic
import Derived.BigQuiet
import Derived.Lib.Hide
import Derived.IntWalk
namespace Go.Proofs.YtmlomapifldlpaaDoor
open Go.RowKit NP
set_option maxRecDepth 8000
set_option linter.unusedVariables false
theorem i64_xor_nonneg (a b : Int) (ha : 0 ≤ a) (ha2 : a < 4611686018427387904) (hb : 0 ≤ b) (hb2 : b < 4611686018427387904) : 0 ≤ bits .xor .i64 a b ∧ bits .xor .i64 a b < 4611686018427387904 := by
  obtain ⟨x, rfl⟩ := Int.eq_ofNat_of_zero_le ha
  obtain ⟨y, rfl⟩ := Int.eq_ofNat_of_zero_le hb
  have hx : x ^^^ y < 2 ^ 62 := Nat.xor_lt_two_pow (by omega) (by omega)
  have h1 : (BitVec.ofInt 64 (x : Int)).toNat = x := by
    rw [BitVec.ofInt_natCast, BitVec.toNat_ofNat]; exact Nat.mod_eq_of_lt (by omega)
  have h2 : (BitVec.ofInt 64 (y : Int)).toNat = y := by
    rw [BitVec.ofInt_natCast, BitVec.toNat_ofNat]; exact Nat.mod_eq_of_lt (by omega)
  have e : bits .xor .i64 (x : Int) (y : Int) = ((x ^^^ y : Nat) : Int) := by
    show IntKind.i64.wrap ((BitVec.ofInt 64 (x : Int) ^^^ BitVec.ofInt 64 (y : Int)).toNat : Int) = _
    rw [BitVec.toNat_xor, h1, h2, IntKind.wrap_i64]
    omega
  rw [e]
  omega
theorem w64 (x : Int) (h : -9223372036854775808 ≤ x ∧ x ≤ 9223372036854775807) : IntKind.i64.wrap x = x := IntWalk.i64_in _ h
theorem tmod_nat (q N : Nat) : (q : Int).tmod (N : Int) = ((q % N : Nat) : Int) := by rw [Int.tmod_eq_emod_of_nonneg (by omega)]; simp
theorem tdiv_nat (q N : Nat) : (q : Int).tdiv (N : Int) = ((q / N : Nat) : Int) := by rw [Int.tdiv_eq_ediv_of_nonneg (by omega)]; simp

/-- block g is a reader over the bytes bs, of which q picks have been made -/
structure Rdr (w : World) (g : Nat) (bs : List Int) (q : Nat) : Prop where
  blk : ∃ a c, Blk w g 53 #[.slice a bs.length c, .int .i64 q] ∧ Rd w g a (bs.map (Value.int .u8))
  len : bs.length ≤ 2000
  byte : ∀ k (h : k < bs.length), 0 ≤ bs[k] ∧ bs[k] ≤ 255
theorem Rdr.lt {w : World} {g : Nat} {bs : List Int} {q : Nat} (h : Rdr w g bs q) : g < w.heap.size := by
  obtain ⟨a, c, h1, h2⟩ := h.blk
  exact h1.lt
theorem Rdr.below {w w' : World} {g : Nat} {bs : List Int} {q : Nat} (h : Rdr w g bs q) (hb : Below (g + 1) w w') : Rdr w' g bs q := by
  obtain ⟨a, c, h1, h2⟩ := h.blk
  exact ⟨⟨a, c, h1.below hb (by omega), h2.below (hb.mono (by omega))⟩, h.len, h.byte⟩
theorem Rdr.dr {w w' : World} {g : Nat} {bs : List Int} {q : Nat} (h : Rdr w g bs q) (hd : Dr w w') : Rdr w' g bs q := h.below (hd.below _)
theorem Rdr.picked {w : World} {g : Nat} {bs : List Int} {q : Nat} (h : Rdr w g bs q) (n : Nat) :
    Rdr ((w.setCell ⟨g, 1, none⟩ (.int .i64 ((q : Int) + 1))).drewN n) g bs (q + 1) ∧ w.grownBy ((w.setCell ⟨g, 1, none⟩ (.int .i64 ((q : Int) + 1))).drewN n) (some g) ∧ ((w.setCell ⟨g, 1, none⟩ (.int .i64 ((q : Int) + 1))).drewN n).heap.size = w.heap.size := by
  obtain ⟨a, c, h1, h2⟩ := h.blk
  have e : w.grownBy ((w.setCell ⟨g, 1, none⟩ (.int .i64 ((q : Int) + 1))).drewN n) (some g) :=
    ⟨rfl, rfl, rfl, by simp [World.setCell], fun k hk hne => Below.heap_setCell w _ _ k (by rintro rfl; exact hne rfl)⟩
  refine ⟨⟨⟨a, c, (h1.set 1 _).drewN n, ?_⟩, h.len, h.byte⟩, e, by simp [World.setCell]⟩
  exact h2.below (((Below.refl g w).setCell (by simp) _).trans ((Dr.n _ n).below g))
theorem Rdr.slot {w : World} {g : Nat} {bs : List Int} {q : Nat} {k : Nat} {a : Option Addr} (h2 : Rd w g a (bs.map (Value.int .u8))) (hk : k < bs.length) : ∃ b o, a = some ⟨b, o, none⟩ ∧ b < g ∧ ∀ j (h : j < bs.length), w.cell? ⟨b, o + j, none⟩ = some (.int .u8 bs[j]) := by
  obtain ⟨b, o, h3, h4, h5⟩ := h2 (by intro e; simp at e; subst e; simp at hk)
  exact ⟨b, o, h3, h4, fun j hj => h5 j _ (by simp [hj])⟩

def Picked (g : Nat) (bs : List Int) (q : Nat) (n : Int) (w : World) (e : Ending) (w' : World) : Prop :=
  ∃ x : Int, e = .returned (.int .i64 x) ∧ 0 ≤ x ∧ (1 ≤ n → x < n) ∧ Rdr w' g bs (q + 1) ∧ w.grownBy w' (some g) ∧ w'.heap.size = w.heap.size

theorem pick_low (g q : Nat) (n : Int) (bs : List Int) (w : World) (hn : n < 1) (hq : q ≤ 1000000) (h : Rdr w g bs q) :
    Calls Tryd.prog 22 #[.pointer (some ⟨g, 0, none⟩), .int .i64 n] w (Picked g bs q n w) := by
  obtain ⟨a, c, hb, hr⟩ := h.blk
  have HP := Lib.hid h.picked
  have hc0 := hb.cell 0
  have hc1 := hb.cell 1
  have hf1 := hb.free 1
  simp at hc0 hc1
  go_enter Tryd.func22, Tryd.ntmps22
  go_wp2_with fail
  go_ret
  have hp := HP.out 0
  exact ⟨0, rfl, by omega, by omega, hp.1, hp.2.1, hp.2.2⟩

theorem pick_bare (g q : Nat) (n : Int) (w : World) (hn : 1 ≤ n) (hq : q ≤ 1000000) (h : Rdr w g [] q) :
    Calls Tryd.prog 22 #[.pointer (some ⟨g, 0, none⟩), .int .i64 n] w (Picked g [] q n w) := by
  obtain ⟨a, c, hb, hr⟩ := h.blk
  have HP := Lib.hid h.picked
  have hc0 := hb.cell 0
  have hc1 := hb.cell 1
  have hf1 := hb.free 1
  simp at hc0 hc1
  go_enter Tryd.func22, Tryd.ntmps22
  go_wp2_with fail
  go_ret
  have hp := HP.out 0
  exact ⟨0, rfl, by omega, by omega, hp.1, hp.2.1, hp.2.2⟩

theorem pick_near (g q : Nat) (n : Int) (bs : List Int) (w : World) (hn : 1 ≤ n) (hn2 : n ≤ 4294967296) (hq : q ≤ 1000000) (h : Rdr w g bs q) (hlt : q < bs.length) :
    Calls Tryd.prog 22 #[.pointer (some ⟨g, 0, none⟩), .int .i64 n] w (Picked g bs q n w) := by
  obtain ⟨a, c, hb, hr⟩ := h.blk
  have HP := Lib.hid h.picked
  obtain ⟨b, o, rfl, hbg, hcell⟩ := Rdr.slot (q := q) hr hlt
  have hne : b ≠ g := by omega
  have hl := h.len
  have hc0 := hb.cell 0
  have hc1 := hb.cell 1
  have hf1 := hb.free 1
  simp at hc0 hc1
  have hv := h.byte q hlt
  have hcx := hcell q hlt
  clear hcell h
  obtain ⟨x1, hx1⟩ : ∃ x1, x1 = bs[q] := ⟨_, rfl⟩
  rw [← hx1] at hcx hv
  clear hx1
  obtain ⟨N, hN⟩ : ∃ N, N = bs.length := ⟨_, rfl⟩
  rw [← hN] at hc0 hlt hl
  clear hN hb hr
  have hN0 : ¬ N = 0 := by omega
  have hl1 : ((N : Int) == 0) = false := by simp; omega
  go_enter Tryd.func22, Tryd.ntmps22
  go_wp2_with fail
  go_ret
  have hp := HP.out 0
  refine ⟨x1 % n, rfl, Int.emod_nonneg _ (by omega), fun _ => Int.emod_lt_of_pos _ (by omega), hp.1, hp.2.1, hp.2.2⟩

set_option maxHeartbeats 400000 in
theorem pick_far (g q : Nat) (n : Int) (bs : List Int) (w : World) (hn : 1 ≤ n) (hn2 : n ≤ 4294967296) (hq : q ≤ 1000000) (h : Rdr w g bs q) (h0 : 0 < bs.length) (hq2 : bs.length ≤ q) :
    Calls Tryd.prog 22 #[.pointer (some ⟨g, 0, none⟩), .int .i64 n] w (Picked g bs q n w) := by
  obtain ⟨a, c', hb, hr⟩ := h.blk
  have HP := Lib.hid h.picked
  obtain ⟨b, o, rfl, hbg, hcell⟩ := Rdr.slot (q := q) hr h0
  have hlen := h.len
  have c1 := hcell _ (Nat.mod_lt q h0)
  have c2 := hcell _ (Nat.mod_lt (q * 7 + 3) h0)
  have v1 := h.byte _ (Nat.mod_lt q h0)
  have v2 := h.byte _ (Nat.mod_lt (q * 7 + 3) h0)
  clear hcell h
  obtain ⟨x1, hx1⟩ : ∃ x, x = bs[q % bs.length]'(Nat.mod_lt q h0) := ⟨_, rfl⟩
  obtain ⟨x2, hx2⟩ : ∃ x, x = bs[(q * 7 + 3) % bs.length]'(Nat.mod_lt _ h0) := ⟨_, rfl⟩
  rw [← hx1] at c1 v1
  rw [← hx2] at c2 v2
  clear hx1 hx2
  obtain ⟨N, hN⟩ : ∃ N, N = bs.length := ⟨_, rfl⟩
  rw [← hN] at hb c1 c2 h0 hq2 hlen
  clear hN hr
  have hc0 := hb.cell 0
  have hc1 := hb.cell 1
  have hf1 := hb.free 1
  simp at hc0 hc1
  have hne : b ≠ g := by omega
  have hl1 : ((N : Int) == 0) = false := by simp; omega
  have hl2 : (0 : Int) < (N : Int) := by omega
  have hN0 : ¬ N = 0 := by omega
  have hqN : q / N ≤ q := Nat.div_le_self _ _
  obtain ⟨i1, hi1, m1, e1⟩ : ∃ i1 : Nat, q % N = i1 ∧ i1 < N ∧ (q : Int).tmod (N : Int) = (i1 : Int) := ⟨_, rfl, Nat.mod_lt _ h0, tmod_nat q N⟩
  obtain ⟨i2, hi2, m2, e4'⟩ : ∃ i2 : Nat, (q * 7 + 3) % N = i2 ∧ i2 < N ∧ ((q * 7 + 3 : Nat) : Int).tmod (N : Int) = (i2 : Int) := ⟨_, rfl, Nat.mod_lt _ h0, tmod_nat _ N⟩
  obtain ⟨r1, hr1, e2⟩ : ∃ r1 : Int, r1 = ((q * 7 : Nat) : Int) ∧ IntKind.i64.wrap ((q : Int) * 7) = r1 := ⟨_, rfl, by rw [w64 _ (by omega)]; simp⟩
  obtain ⟨r2, hr2, e3⟩ : ∃ r2 : Int, r2 = ((q * 7 + 3 : Nat) : Int) ∧ IntKind.i64.wrap (r1 + 3) = r2 := ⟨_, rfl, by rw [hr1, w64 _ (by omega)]; simp⟩
  rw [← hr2] at e4'
  rw [hi1] at c1
  rw [hi2] at c2
  obtain ⟨d, hd, e12, e12'⟩ : ∃ d : Int, (0 ≤ d ∧ d ≤ 1000000) ∧ IntKind.i64.wrap ((q : Int).tdiv (N : Int)) = d ∧ IntKind.i64.wrap ((q : Int) / (N : Int)) = d := by
    obtain ⟨dd, hdd, hdq⟩ : ∃ dd : Nat, q / N = dd ∧ dd ≤ q := ⟨_, rfl, Nat.div_le_self _ _⟩
    have e : ((q : Int) / (N : Int)) = (dd : Int) := by rw [← hdd]; simp
    refine ⟨(dd : Int), by omega, by rw [tdiv_nat, hdd, w64 _ (by omega)], by rw [e, w64 _ (by omega)]⟩
  obtain ⟨y1, hy1, e7⟩ : ∃ y : Int, (0 ≤ y ∧ y ≤ 100000) ∧ IntKind.i64.wrap (x1 * 131) = y := ⟨_, by rw [w64 _ (by omega)]; omega, rfl⟩
  obtain ⟨y2, hy2, e8⟩ : ∃ y : Int, (0 ≤ y ∧ y ≤ 1000000) ∧ IntKind.i64.wrap (x2 * 1117) = y := ⟨_, by rw [w64 _ (by omega)]; omega, rfl⟩
  obtain ⟨y3, hy3, e9⟩ : ∃ y : Int, (0 ≤ y ∧ y ≤ 2000000) ∧ IntKind.i64.wrap (y1 + y2) = y := ⟨_, by rw [w64 _ (by omega)]; omega, rfl⟩
  obtain ⟨y4, hy4, e10⟩ : ∃ y : Int, (0 ≤ y ∧ y ≤ 100000000) ∧ IntKind.i64.wrap ((q : Int) * 29) = y := ⟨_, by rw [w64 _ (by omega)]; omega, rfl⟩
  obtain ⟨y5, hy5, e11⟩ : ∃ y : Int, (0 ≤ y ∧ y ≤ 200000000) ∧ IntKind.i64.wrap (y3 + y4) = y := ⟨_, by rw [w64 _ (by omega)]; omega, rfl⟩
  obtain ⟨y6, hy6, e13⟩ : ∃ y : Int, (0 ≤ y ∧ y ≤ 100000000) ∧ IntKind.i64.wrap (d * 53) = y := ⟨_, by rw [w64 _ (by omega)]; omega, rfl⟩
  obtain ⟨y7, hy7, e14⟩ : ∃ y : Int, (0 ≤ y ∧ y ≤ 400000000) ∧ IntKind.i64.wrap (y5 + y6) = y := ⟨_, by rw [w64 _ (by omega)]; omega, rfl⟩
  have e5 : IntKind.i64.wrap x1 = x1 := w64 _ (by omega)
  have e6 : IntKind.i64.wrap x2 = x2 := w64 _ (by omega)
  clear hi1 hi2 hr1 hr2
  have hi1' : (0 : Int) ≤ (i1 : Int) := by omega
  have hi2' : (0 : Int) ≤ (i2 : Int) := by omega
  have hi1'' : (i1 : Int) < (N : Int) := by omega
  have hi2'' : (i2 : Int) < (N : Int) := by omega
  go_enter Tryd.func22, Tryd.ntmps22
  go_wp2_with fail
  go_quiet (fail)
  go_wp2
  go_ret
  have hp := HP.out nq
  have hx := i64_xor_nonneg y7 (y7 / 64) (by omega) (by omega) (by omega) (by omega)
  have ht : (bits .xor .i64 y7 (y7 / 64)).tmod n = (bits .xor .i64 y7 (y7 / 64)) % n := Int.tmod_eq_emod_of_nonneg hx.1
  refine ⟨_, rfl, ?_, fun _ => ?_, hp.1, hp.2.1, hp.2.2⟩
  · show 0 ≤ (bits .xor .i64 y7 (y7 / 64)).tmod n
    rw [ht]; exact Int.emod_nonneg _ (by omega)
  · show (bits .xor .i64 y7 (y7 / 64)).tmod n < n
    rw [ht]; exact Int.emod_lt_of_pos _ (by omega)

theorem pick_any (g q : Nat) (n : Int) (bs : List Int) (w : World) (hn2 : n ≤ 4294967296) (hq : q ≤ 1000000) (h : Rdr w g bs q) :
    Calls Tryd.prog 22 #[.pointer (some ⟨g, 0, none⟩), .int .i64 n] w (Picked g bs q n w) := by
  by_cases hn : n < 1
  · exact pick_low g q n bs w hn hq h
  · rcases Nat.eq_zero_or_pos bs.length with h0 | h0
    · obtain rfl := List.eq_nil_of_length_eq_zero h0
      exact pick_bare g q n w (by omega) hq h
    · rcases Nat.lt_or_ge q bs.length with h1 | h1
      · exact pick_near g q n bs w (by omega) hn2 hq h h1
      · exact pick_far g q n bs w (by omega) hn2 hq h h0 h1

/-- .one(list): one of the numbers of a list -/
theorem one_any (g q B c : Nat) (a : Option Addr) (M : List Int) (bs : List Int) (w : World) (hM : 0 < M.length) (hM2 : M.length ≤ 4294967296) (hq : q ≤ 1000000) (h : Rdr w g bs q) (hr : Rd w B a (ints M)) (hB : ∀ b o, a = some ⟨b, o, none⟩ → b ≠ g) :
    Calls Tryd.prog 24 #[.pointer (some ⟨g, 0, none⟩), .slice a M.length c] w fun e w' => ∃ k, ∃ hk : k < M.length, e = .returned (.int .i64 M[k]) ∧ Rdr w' g bs (q + 1) ∧ w.grownBy w' (some g) ∧ w'.heap.size = w.heap.size := by
  go_enter Tryd.func24, Tryd.ntmps24
  go_wp2_with fail
  refine (pick_any g q _ bs _ (by omega) hq h).mono ?_
  rintro e w1 ⟨x, rfl, hx0, hx1, h1, hg1, hs1⟩
  obtain ⟨k, rfl⟩ := Int.eq_ofNat_of_zero_le hx0
  have hk : k < M.length := by have := hx1 (by omega); omega
  obtain ⟨b, o, rfl, hb, hc⟩ := hr.at_ hk
  have hlt := World.block_lt_of_cell? _ _ hc
  have hc' : w1.cell? ⟨b, o + k, none⟩ = some (.int .i64 M[k]) := (World.cell?_of_block (hg1.block b hlt (by have := hB b o rfl; simpa using this))).trans hc
  clear hx1
  go_wp2_with fail
  go_ret
  exact ⟨k, hk, rfl, h1, hg1, hs1⟩

theorem rd_new (w : World) (cs : Array Value) (t : TypeId) : Rd (w.alloc (.cells cs t)) (w.heap.size + 1) (some ⟨w.heap.size, 0, none⟩) cs.toList := fun _ =>
  ⟨w.heap.size, 0, rfl, by omega, fun k v hk => by rw [Nat.zero_add, (show (w.alloc (.cells cs t)).heap[w.heap.size]? = some (.cells cs t (0, 0)) from heap_alloc_new w _) |> cell_of_row _ w.heap.size k cs t (0, 0)]; simpa using hk⟩

/-- block g alone, and new blocks, have turned -/
theorem chg_trans {a b c : World} {g : Nat} (h : a.grownBy b (some g)) (k : b.grownBy c (some g)) : a.grownBy c (some g) :=
  ⟨k.os.trans h.os, k.tape.trans h.tape, k.output.trans h.output, Nat.le_trans h.size k.size, fun i hi hne => (k.block i (Nat.lt_of_lt_of_le hi h.size) hne).trans (h.block i hi hne)⟩
theorem chg_alloc {a b : World} {g : Nat} (h : a.grownBy b (some g)) (o : Obj) : a.grownBy (b.alloc o) (some g) :=
  chg_trans h (World.grownBy_alloc b o _)
theorem chg_below {a b c : World} {g : Nat} (h : a.grownBy b (some g)) (k : Below a.heap.size b c) : a.grownBy c (some g) :=
  ⟨k.os.trans h.os, k.tape.trans h.tape, k.output.trans h.output, Nat.le_trans h.size k.size, fun i hi hne => (k.block i hi).trans (h.block i hi hne)⟩
theorem chg_row {a b c : World} {g : Nat} {row : Option Nat} (h : a.grownBy b (some g)) (k : b.grownBy c row) (hr : ∀ x, row = some x → a.heap.size ≤ x) : a.grownBy c (some g) :=
  chg_below h ((Below.refl a.heap.size b).grown k h.size hr)
theorem chg_low {a b : World} {g : Nat} (h : a.grownBy b (some g)) : Below g a b ∨ a.heap.size ≤ g := by
  rcases Nat.lt_or_ge g a.heap.size with hg | hg
  · exact .inl ⟨h.os, h.tape, h.output, h.size, fun k hk => h.block k (by omega) (by simp; omega)⟩
  · exact .inr hg
theorem Rdr.row {w w' : World} {g : Nat} {bs : List Int} {q : Nat} {row : Option Nat} (h : Rdr w g bs q) (hg : w.grownBy w' row) (hr : ∀ x, row = some x → g < x) : Rdr w' g bs q :=
  h.below ((Below.refl (g + 1) w).grown hg h.lt fun k hk => hr k hk)

theorem Own.chg {w w' : World} {lo hi g : Nat} {e : TypeId} {v : Value} {vs : List Value} (h : Own w lo hi e v vs) (hg : w.grownBy w' (some g)) (hlt : g < lo) : Own w' lo hi e v vs :=
  h.grown hg (.inr fun e => by have := h.base g e; omega)

theorem newReader_any (a : Option Addr) (c B : Nat) (bs : List Int) (w : World) (h : Rd w B a (bs.map (Value.int .u8))) (hB : B ≤ w.heap.size) (hb : ∀ n ∈ bs, (Lit.int .u8 n).wf = true) (hl : bs.length ≤ 1048576) (hc : bs.length ≤ c) :
    Calls Tryd.prog 14 #[.slice a bs.length c] w fun e w' => e = .returned (.pointer (some ⟨w.heap.size, 0, none⟩)) ∧ Rdr w' w.heap.size (bs.take 2000) 0 ∧ Below w.heap.size w w' ∧ w'.heap.size = w.heap.size + 1 := by
  have hbb : ∀ k (h : k < (bs.take 2000).length), 0 ≤ (bs.take 2000)[k] ∧ (bs.take 2000)[k] ≤ 255 := by
    intro k hk
    have := hb (bs.take 2000)[k] (List.mem_of_mem_take (List.getElem_mem hk))
    generalize (bs.take 2000)[k] = x at this ⊢
    simp [Lit.wf, IntKind.min, IntKind.max, IntKind.bits, IntKind.signed] at this
    omega
  by_cases h2 : 2000 < bs.length
  · have hcell : ∃ b o, a = some ⟨b, o, none⟩ := by
      obtain ⟨b, o, h1, _⟩ := h (by intro e; simp at e; subst e; simp at h2)
      exact ⟨b, o, h1⟩
    obtain ⟨b, o, rfl⟩ := hcell
    have hlen : (bs.take 2000).length = 2000 := by simp; omega
    have hc2 : (2000 : Int) ≤ (c : Int) := by omega
    have hR : Rd w w.heap.size (some ⟨b, o, none⟩) ((bs.take 2000).map (Value.int .u8)) := by have := (h.more hB).take 2000; rwa [← List.map_take] at this
    have hr : ∀ c', Rdr (w.alloc (.cells #[.slice (some ⟨b, o, none⟩) 2000 c', .int .i64 0] 53)) w.heap.size (bs.take 2000) 0 := fun c' =>
      ⟨⟨_, c', by rw [hlen]; exact Blk.new w _ _, hR.alloc (Nat.le_refl _) _⟩, by rw [hlen]; omega, hbb⟩
    have HR := Lib.hid hr
    clear hr hlen hbb hb
    go_enter Tryd.func14, Tryd.ntmps14
    go_wp2_with fail
    go_ret
    exact ⟨rfl, HR.out _, (Below.refl _ _).alloc (Nat.le_refl _) _, by simp⟩
  · have hlen : bs.take 2000 = bs := List.take_of_length_le (by omega)
    rw [hlen] at hbb ⊢
    have hr : Rdr (w.alloc (.cells #[.slice a bs.length c, .int .i64 0] 53)) w.heap.size bs 0 :=
      ⟨⟨_, c, Blk.new w _ _, (h.more hB).alloc (Nat.le_refl _) _⟩, by omega, hbb⟩
    have HR := Lib.hid hr
    clear hr hlen hbb hb
    go_enter Tryd.func14, Tryd.ntmps14
    go_wp2_with fail
    go_ret
    exact ⟨rfl, HR.out, (Below.refl _ _).alloc (Nat.le_refl _) _, by simp⟩
end Go.Proofs.YtmlomapifldlpaaDoor
