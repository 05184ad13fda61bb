/-
  Walks: the reader that draws the arguments of a law: newReader, pick, one. Walks: the drawing of parts: newReader, sumFor, partsOf, goodParts, bent, someParts: whatever is drawn is a short list of small numbers in new memory. A door: the drawing of parts (D3a), with the words of W4. Plain mathematics of united and added parts: conjugates turn one into the other. Mathematics: squares cut off and put back; doubled parts. Plain mathematics of arms and legs (Frobenius).
-/
import Derived.Test.YtbbbfaollcklkaaZp1
import Derived.Test.YtbbbfaollcklkaaZp2
import Derived.Test.YtbbbfaollcklkaaProg
import Derived.Deep.QuietTactic
import Derived.BigQuiet
import Derived.Lib.Hide
import Derived.IntWalk
import Derived.Deep.RegionLaw
import Derived.Deep.DrawnRows
namespace Go.Proofs.Ytbbbfaollcklkaa
open Go.RowKit NP
set_option maxRecDepth 8000
set_option linter.unusedVariables false
theorem i64_xor_nonneg (a b : Int) (ha : 0 ≤ a) (ha2 : a < 4611686018427387904) (hb : 0 ≤ b) (hb2 : b < 4611686018427387904) : 0 ≤ bits .xor .i64 a b ∧ bits .xor .i64 a b < 4611686018427387904 := by
  obtain ⟨x, rfl⟩ := Int.eq_ofNat_of_zero_le ha
  obtain ⟨y, rfl⟩ := Int.eq_ofNat_of_zero_le hb
  have hx : x ^^^ y < 2 ^ 62 := Nat.xor_lt_two_pow (by omega) (by omega)
  have h1 : (BitVec.ofInt 64 (x : Int)).toNat = x := by
    rw [BitVec.ofInt_natCast, BitVec.toNat_ofNat]; exact Nat.mod_eq_of_lt (by omega)
  have h2 : (BitVec.ofInt 64 (y : Int)).toNat = y := by
    rw [BitVec.ofInt_natCast, BitVec.toNat_ofNat]; exact Nat.mod_eq_of_lt (by omega)
  have e : bits .xor .i64 (x : Int) (y : Int) = ((x ^^^ y : Nat) : Int) := by
    show IntKind.i64.wrap ((BitVec.ofInt 64 (x : Int) ^^^ BitVec.ofInt 64 (y : Int)).toNat : Int) = _
    rw [BitVec.toNat_xor, h1, h2, IntKind.wrap_i64]
    omega
  rw [e]
  omega
theorem w64 (x : Int) (h : -9223372036854775808 ≤ x ∧ x ≤ 9223372036854775807) : IntKind.i64.wrap x = x := IntWalk.i64_in _ h
theorem tmod_nat (q N : Nat) : (q : Int).tmod (N : Int) = ((q % N : Nat) : Int) := by rw [Int.tmod_eq_emod_of_nonneg (by omega)]; simp
theorem tdiv_nat (q N : Nat) : (q : Int).tdiv (N : Int) = ((q / N : Nat) : Int) := by rw [Int.tdiv_eq_ediv_of_nonneg (by omega)]; simp

/-- block g is a reader over the bytes bs, of which q picks have been made -/
structure Rdr (w : World) (g : Nat) (bs : List Int) (q : Nat) : Prop where
  blk : ∃ a c, Blk w g 84 #[.slice a bs.length c, .int .i64 q] ∧ Rd w g a (bs.map (Value.int .u8))
  len : bs.length ≤ 2000
  byte : ∀ k (h : k < bs.length), 0 ≤ bs[k] ∧ bs[k] ≤ 255
theorem Rdr.lt {w : World} {g : Nat} {bs : List Int} {q : Nat} (h : Rdr w g bs q) : g < w.heap.size := by
  obtain ⟨a, c, h1, h2⟩ := h.blk
  exact h1.lt
theorem Rdr.below {w w' : World} {g : Nat} {bs : List Int} {q : Nat} (h : Rdr w g bs q) (hb : Below (g + 1) w w') : Rdr w' g bs q := by
  obtain ⟨a, c, h1, h2⟩ := h.blk
  exact ⟨⟨a, c, h1.below hb (by omega), h2.below (hb.mono (by omega))⟩, h.len, h.byte⟩
theorem Rdr.dr {w w' : World} {g : Nat} {bs : List Int} {q : Nat} (h : Rdr w g bs q) (hd : Dr w w') : Rdr w' g bs q := h.below (hd.below _)
theorem Rdr.picked {w : World} {g : Nat} {bs : List Int} {q : Nat} (h : Rdr w g bs q) (n : Nat) :
    Rdr ((w.setCell ⟨g, 1, none⟩ (.int .i64 ((q : Int) + 1))).drewN n) g bs (q + 1) ∧ w.grownBy ((w.setCell ⟨g, 1, none⟩ (.int .i64 ((q : Int) + 1))).drewN n) (some g) ∧ ((w.setCell ⟨g, 1, none⟩ (.int .i64 ((q : Int) + 1))).drewN n).heap.size = w.heap.size := by
  obtain ⟨a, c, h1, h2⟩ := h.blk
  have e : w.grownBy ((w.setCell ⟨g, 1, none⟩ (.int .i64 ((q : Int) + 1))).drewN n) (some g) :=
    ⟨rfl, rfl, rfl, by simp [World.setCell], fun k hk hne => Below.heap_setCell w _ _ k (by rintro rfl; exact hne rfl)⟩
  refine ⟨⟨⟨a, c, (h1.set 1 _).drewN n, ?_⟩, h.len, h.byte⟩, e, by simp [World.setCell]⟩
  exact h2.below (((Below.refl g w).setCell (by simp) _).trans ((Dr.n _ n).below g))
theorem Rdr.slot {w : World} {g : Nat} {bs : List Int} {q : Nat} {k : Nat} {a : Option Addr} (h2 : Rd w g a (bs.map (Value.int .u8))) (hk : k < bs.length) : ∃ b o, a = some ⟨b, o, none⟩ ∧ b < g ∧ ∀ j (h : j < bs.length), w.cell? ⟨b, o + j, none⟩ = some (.int .u8 bs[j]) := by
  obtain ⟨b, o, h3, h4, h5⟩ := h2 (by intro e; simp at e; subst e; simp at hk)
  exact ⟨b, o, h3, h4, fun j hj => h5 j _ (by simp [hj])⟩

def Picked (g : Nat) (bs : List Int) (q : Nat) (n : Int) (w : World) (e : Ending) (w' : World) : Prop :=
  ∃ x : Int, e = .returned (.int .i64 x) ∧ 0 ≤ x ∧ (1 ≤ n → x < n) ∧ Rdr w' g bs (q + 1) ∧ w.grownBy w' (some g) ∧ w'.heap.size = w.heap.size

theorem pick_low (g q : Nat) (n : Int) (bs : List Int) (w : World) (hn : n < 1) (hq : q ≤ 1000000) (h : Rdr w g bs q) :
    Calls Try.prog 62 #[.pointer (some ⟨g, 0, none⟩), .int .i64 n] w (Picked g bs q n w) := by
  obtain ⟨a, c, hb, hr⟩ := h.blk
  have HP := Lib.hid h.picked
  have hc0 := hb.cell 0
  have hc1 := hb.cell 1
  have hf1 := hb.free 1
  simp at hc0 hc1
  go_enter Try.func62, Try.ntmps62
  go_wp2_with fail
  go_ret
  have hp := HP.out 0
  exact ⟨0, rfl, by omega, by omega, hp.1, hp.2.1, hp.2.2⟩

theorem pick_bare (g q : Nat) (n : Int) (w : World) (hn : 1 ≤ n) (hq : q ≤ 1000000) (h : Rdr w g [] q) :
    Calls Try.prog 62 #[.pointer (some ⟨g, 0, none⟩), .int .i64 n] w (Picked g [] q n w) := by
  obtain ⟨a, c, hb, hr⟩ := h.blk
  have HP := Lib.hid h.picked
  have hc0 := hb.cell 0
  have hc1 := hb.cell 1
  have hf1 := hb.free 1
  simp at hc0 hc1
  go_enter Try.func62, Try.ntmps62
  go_wp2_with fail
  go_ret
  have hp := HP.out 0
  exact ⟨0, rfl, by omega, by omega, hp.1, hp.2.1, hp.2.2⟩

theorem pick_near (g q : Nat) (n : Int) (bs : List Int) (w : World) (hn : 1 ≤ n) (hn2 : n ≤ 4294967296) (hq : q ≤ 1000000) (h : Rdr w g bs q) (hlt : q < bs.length) :
    Calls Try.prog 62 #[.pointer (some ⟨g, 0, none⟩), .int .i64 n] w (Picked g bs q n w) := by
  obtain ⟨a, c, hb, hr⟩ := h.blk
  have HP := Lib.hid h.picked
  obtain ⟨b, o, rfl, hbg, hcell⟩ := Rdr.slot (q := q) hr hlt
  have hne : b ≠ g := by omega
  have hl := h.len
  have hc0 := hb.cell 0
  have hc1 := hb.cell 1
  have hf1 := hb.free 1
  simp at hc0 hc1
  have hv := h.byte q hlt
  have hcx := hcell q hlt
  clear hcell h
  obtain ⟨x1, hx1⟩ : ∃ x1, x1 = bs[q] := ⟨_, rfl⟩
  rw [← hx1] at hcx hv
  clear hx1
  obtain ⟨N, hN⟩ : ∃ N, N = bs.length := ⟨_, rfl⟩
  rw [← hN] at hc0 hlt hl
  clear hN hb hr
  have hN0 : ¬ N = 0 := by omega
  have hl1 : ((N : Int) == 0) = false := by simp; omega
  go_enter Try.func62, Try.ntmps62
  go_wp2_with fail
  go_ret
  have hp := HP.out 0
  refine ⟨x1 % n, rfl, Int.emod_nonneg _ (by omega), fun _ => Int.emod_lt_of_pos _ (by omega), hp.1, hp.2.1, hp.2.2⟩

set_option maxHeartbeats 400000 in
theorem pick_far (g q : Nat) (n : Int) (bs : List Int) (w : World) (hn : 1 ≤ n) (hn2 : n ≤ 4294967296) (hq : q ≤ 1000000) (h : Rdr w g bs q) (h0 : 0 < bs.length) (hq2 : bs.length ≤ q) :
    Calls Try.prog 62 #[.pointer (some ⟨g, 0, none⟩), .int .i64 n] w (Picked g bs q n w) := by
  obtain ⟨a, c', hb, hr⟩ := h.blk
  have HP := Lib.hid h.picked
  obtain ⟨b, o, rfl, hbg, hcell⟩ := Rdr.slot (q := q) hr h0
  have hlen := h.len
  have c1 := hcell _ (Nat.mod_lt q h0)
  have c2 := hcell _ (Nat.mod_lt (q * 7 + 3) h0)
  have v1 := h.byte _ (Nat.mod_lt q h0)
  have v2 := h.byte _ (Nat.mod_lt (q * 7 + 3) h0)
  clear hcell h
  obtain ⟨x1, hx1⟩ : ∃ x, x = bs[q % bs.length]'(Nat.mod_lt q h0) := ⟨_, rfl⟩
  obtain ⟨x2, hx2⟩ : ∃ x, x = bs[(q * 7 + 3) % bs.length]'(Nat.mod_lt _ h0) := ⟨_, rfl⟩
  rw [← hx1] at c1 v1
  rw [← hx2] at c2 v2
  clear hx1 hx2
  obtain ⟨N, hN⟩ : ∃ N, N = bs.length := ⟨_, rfl⟩
  rw [← hN] at hb c1 c2 h0 hq2 hlen
  clear hN hr
  have hc0 := hb.cell 0
  have hc1 := hb.cell 1
  have hf1 := hb.free 1
  simp at hc0 hc1
  have hne : b ≠ g := by omega
  have hl1 : ((N : Int) == 0) = false := by simp; omega
  have hl2 : (0 : Int) < (N : Int) := by omega
  have hN0 : ¬ N = 0 := by omega
  have hqN : q / N ≤ q := Nat.div_le_self _ _
  obtain ⟨i1, hi1, m1, e1⟩ : ∃ i1 : Nat, q % N = i1 ∧ i1 < N ∧ (q : Int).tmod (N : Int) = (i1 : Int) := ⟨_, rfl, Nat.mod_lt _ h0, tmod_nat q N⟩
  obtain ⟨i2, hi2, m2, e4'⟩ : ∃ i2 : Nat, (q * 7 + 3) % N = i2 ∧ i2 < N ∧ ((q * 7 + 3 : Nat) : Int).tmod (N : Int) = (i2 : Int) := ⟨_, rfl, Nat.mod_lt _ h0, tmod_nat _ N⟩
  obtain ⟨r1, hr1, e2⟩ : ∃ r1 : Int, r1 = ((q * 7 : Nat) : Int) ∧ IntKind.i64.wrap ((q : Int) * 7) = r1 := ⟨_, rfl, by rw [w64 _ (by omega)]; simp⟩
  obtain ⟨r2, hr2, e3⟩ : ∃ r2 : Int, r2 = ((q * 7 + 3 : Nat) : Int) ∧ IntKind.i64.wrap (r1 + 3) = r2 := ⟨_, rfl, by rw [hr1, w64 _ (by omega)]; simp⟩
  rw [← hr2] at e4'
  rw [hi1] at c1
  rw [hi2] at c2
  obtain ⟨d, hd, e12, e12'⟩ : ∃ d : Int, (0 ≤ d ∧ d ≤ 1000000) ∧ IntKind.i64.wrap ((q : Int).tdiv (N : Int)) = d ∧ IntKind.i64.wrap ((q : Int) / (N : Int)) = d := by
    obtain ⟨dd, hdd, hdq⟩ : ∃ dd : Nat, q / N = dd ∧ dd ≤ q := ⟨_, rfl, Nat.div_le_self _ _⟩
    have e : ((q : Int) / (N : Int)) = (dd : Int) := by rw [← hdd]; simp
    refine ⟨(dd : Int), by omega, by rw [tdiv_nat, hdd, w64 _ (by omega)], by rw [e, w64 _ (by omega)]⟩
  obtain ⟨y1, hy1, e7⟩ : ∃ y : Int, (0 ≤ y ∧ y ≤ 100000) ∧ IntKind.i64.wrap (x1 * 131) = y := ⟨_, by rw [w64 _ (by omega)]; omega, rfl⟩
  obtain ⟨y2, hy2, e8⟩ : ∃ y : Int, (0 ≤ y ∧ y ≤ 1000000) ∧ IntKind.i64.wrap (x2 * 1117) = y := ⟨_, by rw [w64 _ (by omega)]; omega, rfl⟩
  obtain ⟨y3, hy3, e9⟩ : ∃ y : Int, (0 ≤ y ∧ y ≤ 2000000) ∧ IntKind.i64.wrap (y1 + y2) = y := ⟨_, by rw [w64 _ (by omega)]; omega, rfl⟩
  obtain ⟨y4, hy4, e10⟩ : ∃ y : Int, (0 ≤ y ∧ y ≤ 100000000) ∧ IntKind.i64.wrap ((q : Int) * 29) = y := ⟨_, by rw [w64 _ (by omega)]; omega, rfl⟩
  obtain ⟨y5, hy5, e11⟩ : ∃ y : Int, (0 ≤ y ∧ y ≤ 200000000) ∧ IntKind.i64.wrap (y3 + y4) = y := ⟨_, by rw [w64 _ (by omega)]; omega, rfl⟩
  obtain ⟨y6, hy6, e13⟩ : ∃ y : Int, (0 ≤ y ∧ y ≤ 100000000) ∧ IntKind.i64.wrap (d * 53) = y := ⟨_, by rw [w64 _ (by omega)]; omega, rfl⟩
  obtain ⟨y7, hy7, e14⟩ : ∃ y : Int, (0 ≤ y ∧ y ≤ 400000000) ∧ IntKind.i64.wrap (y5 + y6) = y := ⟨_, by rw [w64 _ (by omega)]; omega, rfl⟩
  have e5 : IntKind.i64.wrap x1 = x1 := w64 _ (by omega)
  have e6 : IntKind.i64.wrap x2 = x2 := w64 _ (by omega)
  clear hi1 hi2 hr1 hr2
  have hi1' : (0 : Int) ≤ (i1 : Int) := by omega
  have hi2' : (0 : Int) ≤ (i2 : Int) := by omega
  have hi1'' : (i1 : Int) < (N : Int) := by omega
  have hi2'' : (i2 : Int) < (N : Int) := by omega
  go_enter Try.func62, Try.ntmps62
  go_wp2_with fail
  go_quiet (fail)
  go_wp2
  go_ret
  have hp := HP.out nq
  have hx := i64_xor_nonneg y7 (y7 / 64) (by omega) (by omega) (by omega) (by omega)
  have ht : (bits .xor .i64 y7 (y7 / 64)).tmod n = (bits .xor .i64 y7 (y7 / 64)) % n := Int.tmod_eq_emod_of_nonneg hx.1
  refine ⟨_, rfl, ?_, fun _ => ?_, hp.1, hp.2.1, hp.2.2⟩
  · show 0 ≤ (bits .xor .i64 y7 (y7 / 64)).tmod n
    rw [ht]; exact Int.emod_nonneg _ (by omega)
  · show (bits .xor .i64 y7 (y7 / 64)).tmod n < n
    rw [ht]; exact Int.emod_lt_of_pos _ (by omega)

theorem pick_any (g q : Nat) (n : Int) (bs : List Int) (w : World) (hn2 : n ≤ 4294967296) (hq : q ≤ 1000000) (h : Rdr w g bs q) :
    Calls Try.prog 62 #[.pointer (some ⟨g, 0, none⟩), .int .i64 n] w (Picked g bs q n w) := by
  by_cases hn : n < 1
  · exact pick_low g q n bs w hn hq h
  · rcases Nat.eq_zero_or_pos bs.length with h0 | h0
    · obtain rfl := List.eq_nil_of_length_eq_zero h0
      exact pick_bare g q n w (by omega) hq h
    · rcases Nat.lt_or_ge q bs.length with h1 | h1
      · exact pick_near g q n bs w (by omega) hn2 hq h h1
      · exact pick_far g q n bs w (by omega) hn2 hq h h0 h1

/-- .one(list): one of the numbers of a list -/
theorem one_any (g q B c : Nat) (a : Option Addr) (M : List Int) (bs : List Int) (w : World) (hM : 0 < M.length) (hM2 : M.length ≤ 4294967296) (hq : q ≤ 1000000) (h : Rdr w g bs q) (hr : Rd w B a (ints M)) (hB : ∀ b o, a = some ⟨b, o, none⟩ → b ≠ g) :
    Calls Try.prog 60 #[.pointer (some ⟨g, 0, none⟩), .slice a M.length c] w fun e w' => ∃ k, ∃ hk : k < M.length, e = .returned (.int .i64 M[k]) ∧ Rdr w' g bs (q + 1) ∧ w.grownBy w' (some g) ∧ w'.heap.size = w.heap.size := by
  go_enter Try.func60, Try.ntmps60
  go_wp2_with fail
  refine (pick_any g q _ bs _ (by omega) hq h).mono ?_
  rintro e w1 ⟨x, rfl, hx0, hx1, h1, hg1, hs1⟩
  obtain ⟨k, rfl⟩ := Int.eq_ofNat_of_zero_le hx0
  have hk : k < M.length := by have := hx1 (by omega); omega
  obtain ⟨b, o, rfl, hb, hc⟩ := hr.at_ hk
  have hlt := World.block_lt_of_cell? _ _ hc
  have hc' : w1.cell? ⟨b, o + k, none⟩ = some (.int .i64 M[k]) := (World.cell?_of_block (hg1.block b hlt (by have := hB b o rfl; simpa using this))).trans hc
  clear hx1
  go_wp2_with fail
  go_ret
  exact ⟨k, hk, rfl, h1, hg1, hs1⟩

theorem rd_new (w : World) (cs : Array Value) (t : TypeId) : Rd (w.alloc (.cells cs t)) (w.heap.size + 1) (some ⟨w.heap.size, 0, none⟩) cs.toList := fun _ =>
  ⟨w.heap.size, 0, rfl, by omega, fun k v hk => by rw [Nat.zero_add, (show (w.alloc (.cells cs t)).heap[w.heap.size]? = some (.cells cs t (0, 0)) from heap_alloc_new w _) |> cell_of_row _ w.heap.size k cs t (0, 0)]; simpa using hk⟩

/-- block g alone, and new blocks, have turned -/
theorem chg_trans {a b c : World} {g : Nat} (h : a.grownBy b (some g)) (k : b.grownBy c (some g)) : a.grownBy c (some g) :=
  ⟨k.os.trans h.os, k.tape.trans h.tape, k.output.trans h.output, Nat.le_trans h.size k.size, fun i hi hne => (k.block i (Nat.lt_of_lt_of_le hi h.size) hne).trans (h.block i hi hne)⟩
theorem chg_alloc {a b : World} {g : Nat} (h : a.grownBy b (some g)) (o : Obj) : a.grownBy (b.alloc o) (some g) :=
  chg_trans h (World.grownBy_alloc b o _)
theorem chg_below {a b c : World} {g : Nat} (h : a.grownBy b (some g)) (k : Below a.heap.size b c) : a.grownBy c (some g) :=
  ⟨k.os.trans h.os, k.tape.trans h.tape, k.output.trans h.output, Nat.le_trans h.size k.size, fun i hi hne => (k.block i hi).trans (h.block i hi hne)⟩
theorem chg_row {a b c : World} {g : Nat} {row : Option Nat} (h : a.grownBy b (some g)) (k : b.grownBy c row) (hr : ∀ x, row = some x → a.heap.size ≤ x) : a.grownBy c (some g) :=
  chg_below h ((Below.refl a.heap.size b).grown k h.size hr)
theorem chg_low {a b : World} {g : Nat} (h : a.grownBy b (some g)) : Below g a b ∨ a.heap.size ≤ g := by
  rcases Nat.lt_or_ge g a.heap.size with hg | hg
  · exact .inl ⟨h.os, h.tape, h.output, h.size, fun k hk => h.block k (by omega) (by simp; omega)⟩
  · exact .inr hg
theorem Rdr.row {w w' : World} {g : Nat} {bs : List Int} {q : Nat} {row : Option Nat} (h : Rdr w g bs q) (hg : w.grownBy w' row) (hr : ∀ x, row = some x → g < x) : Rdr w' g bs q :=
  h.below ((Below.refl (g + 1) w).grown hg h.lt fun k hk => hr k hk)

theorem Own.chg {w w' : World} {lo hi g : Nat} {e : TypeId} {v : Value} {vs : List Value} (h : Own w lo hi e v vs) (hg : w.grownBy w' (some g)) (hlt : g < lo) : Own w' lo hi e v vs :=
  h.grown hg (.inr fun e => by have := h.base g e; omega)

theorem newReader_any (a : Option Addr) (c B : Nat) (bs : List Int) (w : World) (h : Rd w B a (bs.map (Value.int .u8))) (hB : B ≤ w.heap.size) (hb : ∀ n ∈ bs, (Lit.int .u8 n).wf = true) (hl : bs.length ≤ 1048576) (hc : bs.length ≤ c) :
    Calls Try.prog 43 #[.slice a bs.length c] w fun e w' => e = .returned (.pointer (some ⟨w.heap.size, 0, none⟩)) ∧ Rdr w' w.heap.size (bs.take 2000) 0 ∧ Below w.heap.size w w' ∧ w'.heap.size = w.heap.size + 1 := by
  have hbb : ∀ k (h : k < (bs.take 2000).length), 0 ≤ (bs.take 2000)[k] ∧ (bs.take 2000)[k] ≤ 255 := by
    intro k hk
    have := hb (bs.take 2000)[k] (List.mem_of_mem_take (List.getElem_mem hk))
    generalize (bs.take 2000)[k] = x at this ⊢
    simp [Lit.wf, IntKind.min, IntKind.max, IntKind.bits, IntKind.signed] at this
    omega
  by_cases h2 : 2000 < bs.length
  · have hcell : ∃ b o, a = some ⟨b, o, none⟩ := by
      obtain ⟨b, o, h1, _⟩ := h (by intro e; simp at e; subst e; simp at h2)
      exact ⟨b, o, h1⟩
    obtain ⟨b, o, rfl⟩ := hcell
    have hlen : (bs.take 2000).length = 2000 := by simp; omega
    have hc2 : (2000 : Int) ≤ (c : Int) := by omega
    have hR : Rd w w.heap.size (some ⟨b, o, none⟩) ((bs.take 2000).map (Value.int .u8)) := by have := (h.more hB).take 2000; rwa [← List.map_take] at this
    have hr : ∀ c', Rdr (w.alloc (.cells #[.slice (some ⟨b, o, none⟩) 2000 c', .int .i64 0] 84)) w.heap.size (bs.take 2000) 0 := fun c' =>
      ⟨⟨_, c', by rw [hlen]; exact Blk.new w _ _, hR.alloc (Nat.le_refl _) _⟩, by rw [hlen]; omega, hbb⟩
    have HR := Lib.hid hr
    clear hr hlen hbb hb
    go_enter Try.func43, Try.ntmps43
    go_wp2_with fail
    go_ret
    exact ⟨rfl, HR.out _, (Below.refl _ _).alloc (Nat.le_refl _) _, by simp⟩
  · have hlen : bs.take 2000 = bs := List.take_of_length_le (by omega)
    rw [hlen] at hbb ⊢
    have hr : Rdr (w.alloc (.cells #[.slice a bs.length c, .int .i64 0] 84)) w.heap.size bs 0 :=
      ⟨⟨_, c, Blk.new w _ _, (h.more hB).alloc (Nat.le_refl _) _⟩, by omega, hbb⟩
    have HR := Lib.hid hr
    clear hr hlen hbb hb
    go_enter Try.func43, Try.ntmps43
    go_wp2_with fail
    go_ret
    exact ⟨rfl, HR.out, (Below.refl _ _).alloc (Nat.le_refl _) _, by simp⟩
end Go.Proofs.Ytbbbfaollcklkaa
namespace Go.Proofs.Ytbbbfaollcklkaa
open Go.RowKit NP
set_option maxRecDepth 8000
set_option linter.unusedVariables false
attribute [local go_sem ↓] Go.wp_at_zero Go.wp_at_succ
/-- where x goes -/
def posOf (x : Int) (M : List Int) : Nat := ff (fun (j : Nat) => decide (x ≤ M.getD j 0)) M.length
def insK (M : List Int) (x : Int) : List Int := M.take (posOf x M) ++ x :: M.drop (posOf x M)
def mrg (L : List Int) : List Int := L.foldl insK []
set_option maxRecDepth 100000 in
set_option maxHeartbeats 1000000 in
theorem merge_any (a : Option Addr) (c B : Nat) (L : List Int) (w : World) (h : Rd w B a (ints L)) (hB : B ≤ w.heap.size) (hl : L.length ≤ 1048576) :
    Calls Try.prog 56 #[.slice a L.length c] w fun e w' => ∃ a' c', e = .returned (.slice a' (mrg L).length c') ∧ Own w' w.heap.size w'.heap.size 3 (.slice a' (mrg L).length c') (ints (mrg L)) ∧ Below w.heap.size w w' := by
  obtain ⟨i0, hi, hz0, hz1, hz2⟩ := T_int'
  go_enter Try.func56, Try.ntmps56
  go_wp2
  go_loopw [3, 4] (fun v i wr => ∃ k : Nat, k ≤ L.length ∧ i = .int .i64 k ∧ Below w.heap.size w wr ∧ (∃ M, Hid (M = (L.take k).foldl insK []) ∧ M.length = k ∧ ∃ g cc, v = .slice (some ⟨g, 0, none⟩) M.length cc ∧ M.length ≤ cc ∧ Own wr w.heap.size wr.heap.size 3 (.slice (some ⟨g, 0, none⟩) M.length cc) (ints M))) (fun _ i _ => L.length - (intOf i).toNat)
  case atStart => exact ⟨0, Nat.zero_le _, rfl, (Below.refl _ _).alloc (Nat.le_refl _) _, [], Lib.hid rfl, rfl, w.heap.size, 0, rfl, Nat.le_refl _, (Own.empty w 3).more⟩
  case round =>
    obtain ⟨k, hk, rfl, hbel, M, HM, hMl, g, cc, rfl, hcc, hown⟩ := hrel
    by_cases hlt : k < L.length
    · obtain ⟨b, o, rfl, hbB, hc0⟩ := ((h.more hB).below hbel).at_ hlt
      obtain ⟨wo, rfl⟩ : ∃ wo : World, wo = wr := ⟨_, rfl⟩
      have hMb : M.length ≤ 1048576 := by omega
      have HL := Lib.hid hMl
      clear hMl
      have HO := Lib.hid hown
      clear hown
      go_wp2
      go_loopw [5] (fun j wr => ∃ q : Nat, q ≤ M.length ∧ j = .int .i64 q ∧ Dr wo wr ∧ Hid (∀ r, r < q → (fun (r : Nat) => decide (L[k] ≤ M.getD r 0)) r = true)) (fun j _ => M.length - (intOf j).toNat)
      case atStart => exact ⟨0, Nat.zero_le _, rfl, Dr.refl _, Lib.hid fun r hr => by omega⟩
      case round =>
        obtain ⟨q, hq, rfl, hdr, HP⟩ := hrel
        have hown := HO.out.dr hdr
        have hcr : wr.cell? ⟨b, o + k, none⟩ = some (.int .i64 L[k]) := by
          have := (hdr.below (w.heap.size)).cell (p := ⟨b, o + k, none⟩) (by exact hbB)
          rw [this]; exact hc0
        have hqc : (q : Int) ≤ (cc : Int) := by omega
        have hq0 : (0 : Int) ≤ (q : Int) := by omega
        have hqM' : (q : Int) ≤ (M.length : Int) := by omega
        by_cases hqM : q < M.length
        · obtain ⟨g', cc', e, hlo, hhi, hcM, -⟩ := hown.at_ (k := q) (by simpa using hqM)
          have hcM' : wr.cell? ⟨g, q, none⟩ = some (.int .i64 M[q]) := by
            injection e with e; injection e with e; injection e with e; subst e
            simpa using hcM
          clear hcM e
          by_cases hx : L[k] ≤ M[q]
          · go_wp2_with fail
            go_quiet (fail)
            go_wp2
            go_roundw
            case rel => exact ⟨q + 1, by omega, by go_num, hdr.drewN _, Lib.hid fun r hr => by
              rcases Nat.lt_or_ge r q with h | h
              · exact HP.out r h
              · obtain rfl : r = q := by omega
                simp [List.getD, hqM]; omega⟩
            case measure => simp [intOf]; omega
          · have hx' : M[q] < L[k] := by omega
            have HQ : Hid (posOf L[k] M = q) := Lib.hid (ff_eq HP.out hq (.inr (by simp [List.getD, hqM]; omega)))
            clear hx
            go_wp2_with fail
            go_quiet (fail)
            go_wp2_with fail
            obtain ⟨w2, hw2⟩ : ∃ w2, w2 = wr.drewN nq := ⟨_, rfl⟩
            rw [← hw2]
            have hd2 : Dr wo w2 := by rw [hw2]; exact hdr.drewN nq
            clear hw2 hcr hown hdr
            have hown := HO.out.dr hd2
            have hbel2 := hbel.trans (hd2.below _)
            have hcx : w2.cell? ⟨b, o + k, none⟩ = some (.int .i64 L[k]) := by
              rw [(hd2.below (w.heap.size)).cell (p := ⟨b, o + k, none⟩) (by exact hbB)]; exact hc0
            have hRT : Rd w2 w2.heap.size (some ⟨g, 0, none⟩) (ints (M.take q)) := by have := (hown.rd.more hown.le).take q; simpa [ints, List.map_take] using this
            have hRC : Rd w2 w2.heap.size (if cc = q then some ⟨g, 0, none⟩ else some ⟨g, q, none⟩) (ints (M.drop q)) := by have := (hown.rd.more hown.le).cutAt (cap := cc) q (by simpa using hcc); simpa [ints, List.map_drop] using this
            have hln := hown.le
            have hb2 : b < w2.heap.size := by have := hbel2.size; omega
            have HLT := Lib.hid (len_take hq)
            have HLD := Lib.hid (len_drop (M := M) (q := q))
            have hMl : M.length ≤ 1048576 := by have := HL.out; omega
            clear hown
            go_region_law (first | (refine step_append_b _ (by rfl) (.tmp 30) (.tmp 33) 22 (by rfl) w2.heap.size _ 3 i0 (.int .i64 0) 8 Try.underlying22 hi hz0 hz1 hz2 rfl _ [] (by rfl) w2 (by go_grown) (Nat.le_refl _) (by first | exact (own_empty1 w2 _ (Nat.le_refl _)).drew | exact ((own_empty1 w2 _ (Nat.le_refl _)).alloc _).drew | exact (own_empty2 w2 _ _ (Nat.le_refl _)).drew) w2.heap.size (some ⟨g, 0, none⟩) q cc (ints (M.take q)) (by rfl) (hRT.below (by go_grown)) HLT.out (ints_one _) (by simp only [List.length_nil]; omega) (by omega) ?_; intro v1 w3 ho1 hb3 hg1; have hcx3 : w3.cell? ⟨b, o + k, none⟩ = some (.int .i64 L[k]) := (hb3.cell (p := ⟨b, o + k, none⟩) hb2).trans hcx) | (refine step_append_b _ (by rfl) (.tmp 34) (.tmp 39) 22 (by rfl) w2.heap.size _ 3 i0 (.int .i64 0) 8 Try.underlying22 hi hz0 hz1 hz2 rfl _ _ (by rfl) w2 (by first | exact hb3 | exact hb3.alloc hb3.size _) (Nat.le_refl _) (by first | exact ho1 | exact ho1.alloc _) _ _ 1 1 [.int .i64 L[k]] (by rfl) (by first | exact Rd.one w3 _ _ | exact (rd_one2 w2 _ _ _).drew.apart hg1 (by simp) (by omega) | exact (rd_one3 w2 _ _ _).drew.apart hg1 (by simp) (by omega)) rfl (by simp; rfl) (by simp; omega) (by omega) ?_; intro v2 w4 ho2 hb4 hg2) | (refine step_append_b _ (by rfl) (.tmp 40) (.tmp 43) 22 (by rfl) w2.heap.size _ 3 i0 (.int .i64 0) 8 Try.underlying22 hi hz0 hz1 hz2 rfl _ _ (by rfl) w2 hb4 (Nat.le_refl _) ho2 _ _ (M.length - q) (cc - q) (ints (M.drop q)) (by rfl) (hRC.below hb4) HLD.out (ints_one _) (by simp; omega) (by omega) ?_; intro v3 w5 ho3 hb5 hg3))
            all_goals
              have hvs : ([] ++ ints (M.take q)) ++ [Value.int .i64 L[k]] ++ ints (M.drop q) = ints (insK M L[k]) := by unfold insK; rw [HQ.out]; simp [ints]
              rw [hvs] at ho3
              clear hvs
              have hlen : (insK M L[k]).length = M.length + 1 := by unfold insK; rw [HQ.out]; simp; omega
              have HI := Lib.hid (by rw [List.take_succ_eq_append_getElem hlt, List.foldl_append, ← HM.out]; rfl : insK M L[k] = (L.take (k + 1)).foldl insK [])
              obtain ⟨M', hM'⟩ : ∃ M', M' = insK M L[k] := ⟨_, rfl⟩
              rw [← hM'] at ho3 hlen HI
              clear hM'
              obtain ⟨g3, c3, rfl, hc3⟩ := ho3.formN (by simp; omega)
              have hl0 : (ints M').length = M'.length := by simp
              rw [hl0] at hc3
              have HO3 := Lib.hid ho3
              clear ho3
              have HLEN := Lib.hid hlen
              clear hlen
              rw [hl0]
              rw [hl0] at HO3
              have HL0 := Lib.hid hl0
              clear hl0
              go_wp2
              go_roundw
              case rel => exact ⟨k + 1, by omega, by go_num, (hbel2.trans (hb5.mono hbel2.size)), M', HI, by rw [HLEN.out, HL.out], g3, c3, rfl, hc3, HO3.out.lower hbel2.size⟩
              case measure => simp [intOf]; omega
        · have hov : decide (q < M.length) = false := decide_eq_false hqM
          have HQ : Hid (posOf L[k] M = q) := Lib.hid (ff_eq HP.out hq (.inl (by omega)))
          go_wp2_with fail
          go_quiet (fail)
          go_wp2_with fail
          obtain ⟨w2, hw2⟩ : ∃ w2, w2 = wr.drewN nq := ⟨_, rfl⟩
          rw [← hw2]
          have hd2 : Dr wo w2 := by rw [hw2]; exact hdr.drewN nq
          clear hw2 hcr hown hdr
          have hown := HO.out.dr hd2
          have hbel2 := hbel.trans (hd2.below _)
          have hcx : w2.cell? ⟨b, o + k, none⟩ = some (.int .i64 L[k]) := by
            rw [(hd2.below (w.heap.size)).cell (p := ⟨b, o + k, none⟩) (by exact hbB)]; exact hc0
          have hRT : Rd w2 w2.heap.size (some ⟨g, 0, none⟩) (ints (M.take q)) := by have := (hown.rd.more hown.le).take q; simpa [ints, List.map_take] using this
          have hRC : Rd w2 w2.heap.size (if cc = q then some ⟨g, 0, none⟩ else some ⟨g, q, none⟩) (ints (M.drop q)) := by have := (hown.rd.more hown.le).cutAt (cap := cc) q (by simpa using hcc); simpa [ints, List.map_drop] using this
          have hln := hown.le
          have hb2 : b < w2.heap.size := by have := hbel2.size; omega
          have HLT := Lib.hid (len_take hq)
          have HLD := Lib.hid (len_drop (M := M) (q := q))
          have hMl : M.length ≤ 1048576 := by have := HL.out; omega
          clear hown
          go_region_law (first | (refine step_append_b _ (by rfl) (.tmp 30) (.tmp 33) 22 (by rfl) w2.heap.size _ 3 i0 (.int .i64 0) 8 Try.underlying22 hi hz0 hz1 hz2 rfl _ [] (by rfl) w2 (by go_grown) (Nat.le_refl _) (by first | exact (own_empty1 w2 _ (Nat.le_refl _)).drew | exact ((own_empty1 w2 _ (Nat.le_refl _)).alloc _).drew | exact (own_empty2 w2 _ _ (Nat.le_refl _)).drew) w2.heap.size (some ⟨g, 0, none⟩) q cc (ints (M.take q)) (by rfl) (hRT.below (by go_grown)) HLT.out (ints_one _) (by simp only [List.length_nil]; omega) (by omega) ?_; intro v1 w3 ho1 hb3 hg1; have hcx3 : w3.cell? ⟨b, o + k, none⟩ = some (.int .i64 L[k]) := (hb3.cell (p := ⟨b, o + k, none⟩) hb2).trans hcx) | (refine step_append_b _ (by rfl) (.tmp 34) (.tmp 39) 22 (by rfl) w2.heap.size _ 3 i0 (.int .i64 0) 8 Try.underlying22 hi hz0 hz1 hz2 rfl _ _ (by rfl) w2 (by first | exact hb3 | exact hb3.alloc hb3.size _) (Nat.le_refl _) (by first | exact ho1 | exact ho1.alloc _) _ _ 1 1 [.int .i64 L[k]] (by rfl) (by first | exact Rd.one w3 _ _ | exact (rd_one2 w2 _ _ _).drew.apart hg1 (by simp) (by omega) | exact (rd_one3 w2 _ _ _).drew.apart hg1 (by simp) (by omega)) rfl (by simp; rfl) (by simp; omega) (by omega) ?_; intro v2 w4 ho2 hb4 hg2) | (refine step_append_b _ (by rfl) (.tmp 40) (.tmp 43) 22 (by rfl) w2.heap.size _ 3 i0 (.int .i64 0) 8 Try.underlying22 hi hz0 hz1 hz2 rfl _ _ (by rfl) w2 hb4 (Nat.le_refl _) ho2 _ _ (M.length - q) (cc - q) (ints (M.drop q)) (by rfl) (hRC.below hb4) HLD.out (ints_one _) (by simp; omega) (by omega) ?_; intro v3 w5 ho3 hb5 hg3))
          all_goals
            have hvs : ([] ++ ints (M.take q)) ++ [Value.int .i64 L[k]] ++ ints (M.drop q) = ints (insK M L[k]) := by unfold insK; rw [HQ.out]; simp [ints]
            rw [hvs] at ho3
            clear hvs
            have hlen : (insK M L[k]).length = M.length + 1 := by unfold insK; rw [HQ.out]; simp; omega
            have HI := Lib.hid (by rw [List.take_succ_eq_append_getElem hlt, List.foldl_append, ← HM.out]; rfl : insK M L[k] = (L.take (k + 1)).foldl insK [])
            obtain ⟨M', hM'⟩ : ∃ M', M' = insK M L[k] := ⟨_, rfl⟩
            rw [← hM'] at ho3 hlen HI
            clear hM'
            obtain ⟨g3, c3, rfl, hc3⟩ := ho3.formN (by simp; omega)
            have hl0 : (ints M').length = M'.length := by simp
            rw [hl0] at hc3
            have HO3 := Lib.hid ho3
            clear ho3
            have HLEN := Lib.hid hlen
            clear hlen
            rw [hl0]
            rw [hl0] at HO3
            have HL0 := Lib.hid hl0
            clear hl0
            go_wp2
            go_roundw
            case rel => exact ⟨k + 1, by omega, by go_num, (hbel2.trans (hb5.mono hbel2.size)), M', HI, by rw [HLEN.out, HL.out], g3, c3, rfl, hc3, HO3.out.lower hbel2.size⟩
            case measure => simp [intOf]; omega
    · obtain rfl : k = L.length := by omega
      have HT : Hid (M = mrg L) := Lib.hid (by have := HM.out; rw [List.take_of_length_le (Nat.le_refl _)] at this; exact this)
      have HO := Lib.hid hown
      clear hown
      go_wp2_with fail
      go_ret
      refine ⟨some ⟨g, 0, none⟩, cc, by rw [← HT.out]; rfl, ?_, hbel⟩
      rw [← HT.out]
      exact HO.out
end Go.Proofs.Ytbbbfaollcklkaa
namespace Go.Proofs.Ytbbbfaollcklkaa
open Go.RowKit NP
set_option maxRecDepth 8000
set_option linter.unusedVariables false

def Small (M : List Int) : Prop := M.length ≤ 40 ∧ ∀ x ∈ M, -1 ≤ x ∧ x ≤ 17
def SmallParts (M : List Int) : Prop := M.length ≤ 16 ∧ ∀ x ∈ M, 1 ≤ x ∧ x ≤ 16

theorem insK_len (M : List Int) (x : Int) : (insK M x).length = M.length + 1 := by
  unfold insK; simp; omega
theorem insK_mem {M : List Int} {x y : Int} (h : y ∈ insK M x) : y = x ∨ y ∈ M := by
  unfold insK at h
  simp at h
  rcases h with h | h | h
  · exact .inr (List.mem_of_mem_take h)
  · exact .inl h
  · exact .inr (List.mem_of_mem_drop h)
theorem fold_ins (L : List Int) : ∀ M, (L.foldl insK M).length = L.length + M.length ∧ ∀ y ∈ L.foldl insK M, y ∈ L ∨ y ∈ M := by
  induction L with
  | nil => intro M; exact ⟨by simp, fun y hy => .inr hy⟩
  | cons x r ih =>
    intro M
    simp only [List.foldl_cons]
    have h := ih (insK M x)
    refine ⟨by rw [h.1, insK_len]; simp; omega, fun y hy => ?_⟩
    rcases h.2 y hy with h1 | h1
    · exact .inl (by simp [h1])
    · rcases insK_mem h1 with rfl | h2
      · exact .inl (by simp)
      · exact .inr h2
theorem mrg_small {L : List Int} (h : SmallParts L) : SmallParts (mrg L) := by
  have hf := fold_ins L []
  refine ⟨by unfold mrg; rw [hf.1]; simpa using h.1, fun x hx => ?_⟩
  rcases hf.2 x hx with h1 | h1
  · exact h.2 x h1
  · simp at h1


theorem sumFor_any (g q : Nat) (bs : List Int) (w : World) (hq : q ≤ 1000000) (h : Rdr w g bs q) :
    Calls Try.prog 84 #[.pointer (some ⟨g, 0, none⟩)] w fun e w' => ∃ x : Int, e = .returned (.int .i64 x) ∧ (0 ≤ x ∧ x ≤ 16) ∧ Rdr w' g bs (q + 1) ∧ w.grownBy w' (some g) := by
  have hlt := h.lt
  go_enter Try.func84, Try.ntmps84
  go_wp2_with fail
  refine (one_any g q _ _ _ [6, 8, 5, 9, 12, 4, 3, 16, 2, 1, 0, 10] bs _ (by simp) (by simp) hq (h.below ((Below.refl _ _).alloc hlt _)) (rd_new w _ _) (by intro b o e; injection e with e; injection e with e; omega)).mono ?_
  rintro e w1 ⟨k, hk, rfl, h1, hg1, -⟩
  have hx : ∀ x ∈ ([6, 8, 5, 9, 12, 4, 3, 16, 2, 1, 0, 10] : List Int), 0 ≤ x ∧ x ≤ 16 := by decide
  have hx1 := hx _ (List.getElem_mem hk)
  obtain ⟨x, hxx⟩ : ∃ x, x = ([6, 8, 5, 9, 12, 4, 3, 16, 2, 1, 0, 10] : List Int)[k] := ⟨_, rfl⟩
  rw [← hxx] at hx1 ⊢
  clear hx hxx
  go_wp2_with fail
  go_ret
  exact ⟨x, rfl, hx1, h1, chg_trans (World.grownBy_alloc w _ _) hg1⟩

set_option maxHeartbeats 400000 in
theorem partsOf_any (g q : Nat) (n : Int) (bs : List Int) (w : World) (hn0 : 0 ≤ n) (hn : n ≤ 16) (hq : q ≤ 900000) (h : Rdr w g bs q) :
    Calls Try.prog 59 #[.pointer (some ⟨g, 0, none⟩), .int .i64 n] w fun e w' => ∃ a' c' M, e = .returned (.slice a' M.length c') ∧ Own w' w.heap.size w'.heap.size 3 (.slice a' M.length c') (ints M) ∧ SmallParts M ∧ (∃ q', q' ≤ q + 32 ∧ Rdr w' g bs q') ∧ w.grownBy w' (some g) := by
  obtain ⟨i0, hi, hz0, hz1, hz2⟩ := T_int'
  have hlt := h.lt
  go_enter Try.func59, Try.ntmps59
  go_wp2_with fail
  go_loopw [1, 5] (fun nn v wr => ∃ (m : Nat) (q' : Nat) (M : List Int), nn = .int .i64 (m : Int) ∧ M.length + m ≤ 16 ∧ q' + 2 * m ≤ q + 32 ∧ Rdr wr g bs q' ∧ w.grownBy wr (some g) ∧ Own wr w.heap.size wr.heap.size 3 v (ints M) ∧ Hid (∀ x ∈ M, 1 ≤ x ∧ x ≤ 16)) (fun nn _ _ => (intOf nn).toNat)
  case atStart =>
    obtain ⟨m, rfl⟩ := Int.eq_ofNat_of_zero_le hn0
    exact ⟨m, q, [], rfl, by simp; omega, by omega, h.below ((Below.refl _ _).alloc hlt _), World.grownBy_alloc w _ _, (Own.empty w 3).more, Lib.hid (by simp)⟩
  case round =>
    obtain ⟨m, q', M, rfl, hMm, hqm, hr, hg, hown, HM⟩ := hrel
    by_cases hm : 0 < m
    · have hm' : (0 : Int) < (m : Int) := by omega
      have hltr := hr.lt
      have HO := Lib.hid hown
      clear hown
      go_wp2_with fail
      refine (one_any g q' _ _ _ [3, 5, 9, 2, 16] bs _ (by simp) (by simp) (by omega) (hr.below ((Below.refl _ _).alloc hltr _)) (rd_new wr _ _) (by intro b o e; injection e with e; injection e with e; omega)).mono ?_
      rintro e w1 ⟨k, hk, rfl, h1, hg1, -⟩
      have hx : ∀ x ∈ ([3, 5, 9, 2, 16] : List Int), 2 ≤ x ∧ x ≤ 16 := by decide
      have hx1 := hx _ (List.getElem_mem hk)
      obtain ⟨x, hxx⟩ : ∃ x, x = ([3, 5, 9, 2, 16] : List Int)[k] := ⟨_, rfl⟩
      rw [← hxx] at hx1 ⊢
      clear hx hxx hk
      have hzr := hg.size
      have HO1 := Lib.hid ((HO.out.alloc (.cells (ints [3, 5, 9, 2, 16]).toArray 3)).chg hg1 (by omega)).more
      have hgw1 := chg_trans (chg_alloc hg (.cells (ints [3, 5, 9, 2, 16]).toArray 3)) hg1
      clear hg1 HO
      go_wp2_with fail
      all_goals
        refine (pick_any g _ _ bs _ (by omega) (by omega) h1).mono ?_
        rintro e w2 ⟨y, rfl, hy0, hy1, h2, hg2, -⟩
        obtain ⟨y, rfl⟩ := Int.eq_ofNat_of_zero_le hy0
        have hym : y + 1 ≤ m := by have := hy1 (by omega); omega
        clear hy1
        have hown2 := (HO1.out.chg hg2 (by omega)).more
        have hgw2 := chg_trans hgw1 hg2
        have hzw2 := hgw2.size
        clear hgw1 hg2 HO1
        go_wp2_with (at_builtin; refine wpList_append_o _ rfl (.tmp 18) (.tmp 20) 22 rfl w.heap.size w2.heap.size 3 i0 (.int .i64 0) 8 Try.underlying22 hi hz0 hz1 hz2 rfl _ (ints M) rfl (hown2.alloc _) (w2.heap.size + 1) (some ⟨w2.heap.size, 0, none⟩) 1 1 [.int .i64 (1 + (y : Int))] rfl (Rd.one w2 _ _) rfl (by simp; rfl) (by simp; unfold maxLen; omega) (by simp; omega) (by simp; omega) ?_; intro v' w3 ho3 hg3 hat3)
        go_roundw
        case rel =>
          refine ⟨m - (1 + y), q' + 2, M ++ [1 + (y : Int)], by go_num, by simp; omega, by omega, (h2.row (World.grownBy_alloc w2 _ none) (by simp)).row hg3 (fun k hk => by have := hown2.base k hk; omega), chg_row (chg_alloc hgw2 _) hg3 hown2.base, by simpa [ints] using ho3, Lib.hid fun x hx => ?_⟩
          simp at hx
          rcases hx with hx | hx
          · exact HM.out x hx
          · omega
        case measure => simp [intOf]; omega
    · obtain rfl : m = 0 := by omega
      obtain ⟨a0, c0, rfl⟩ := hown.form
      have hs : SmallParts M := ⟨by omega, HM.out⟩
      have HS := Lib.hid (mrg_small hs)
      have hlM : (ints M).length = M.length := by simp
      rw [hlM] at hown ⊢
      have HO := Lib.hid hown
      clear hown hlM
      go_wp2_with fail
      refine (merge_any _ _ _ M _ HO.out.rd (by omega) (by have := hs.1; omega)).mono ?_
      rintro e w1 ⟨a', c', rfl, ho1, hb1⟩
      go_wp2_with fail
      go_ret
      exact ⟨a', c', mrg M, rfl, ho1.lower hg.size, HS.out, ⟨q', by omega, hr.below (hb1.mono hr.lt)⟩, chg_below hg (hb1.mono hg.size)⟩

theorem below_push' {g : Nat} {w0 w w1 : World} {o : Obj} {row : Option Nat} (hb : Below g w0 w) (hB : g < w.heap.size) (hg : (w.alloc o).grownBy w1 row) (hr : ∀ k, row = some k → g ≤ k) : Below g w0 w1 :=
  (hb.alloc (by omega) o).grown hg (by simp; omega) hr

/-- what a draw of parts leaves -/
def Drawn (g : Nat) (bs : List Int) (P : List Int → Prop) (top : Nat) (w : World) (e : Ending) (w' : World) : Prop :=
  ∃ a' c' M, e = .returned (.slice a' M.length c') ∧ Own w' w.heap.size w'.heap.size 3 (.slice a' M.length c') (ints M) ∧ P M ∧ (∃ q', q' ≤ top ∧ Rdr w' g bs q') ∧ w.grownBy w' (some g)

theorem goodParts_any (g q : Nat) (bs : List Int) (w : World) (hq : q ≤ 800000) (h : Rdr w g bs q) :
    Calls Try.prog 67 #[.pointer (some ⟨g, 0, none⟩)] w (Drawn g bs SmallParts (q + 40) w) := by
  go_enter Try.func67, Try.ntmps67
  go_wp2_with fail
  refine (sumFor_any g q bs _ (by omega) h).mono ?_
  rintro e w1 ⟨x, rfl, ⟨hx0, hx1⟩, h1, hg1⟩
  go_wp2_with fail
  refine (partsOf_any g _ x bs _ hx0 hx1 (by omega) h1).mono ?_
  rintro e w2 ⟨a', c', M, rfl, ho, hs, ⟨q', hq', h2⟩, hg2⟩
  go_wp2_with fail
  go_ret
  exact ⟨a', c', M, rfl, ho.lower hg1.size, hs, ⟨q', by omega, h2⟩, chg_trans hg1 hg2⟩

/-- but for block g, nothing below lo has turned -/
structure Chg (g lo : Nat) (w w' : World) : Prop where
  os : w'.os = w.os
  tape : w'.tape = w.tape
  output : w'.output = w.output
  size : w.heap.size ≤ w'.heap.size
  block : ∀ k, k < lo → k ≠ g → w'.heap[k]? = w.heap[k]?
theorem Chg.trans {g lo : Nat} {a b c : World} (h : Chg g lo a b) (k : Chg g lo b c) : Chg g lo a c :=
  ⟨k.os.trans h.os, k.tape.trans h.tape, k.output.trans h.output, Nat.le_trans h.size k.size, fun i hi hne => (k.block i hi hne).trans (h.block i hi hne)⟩
theorem Chg.of {g lo : Nat} {w w' : World} (h : w.grownBy w' (some g)) (hlo : lo ≤ w.heap.size) : Chg g lo w w' :=
  ⟨h.os, h.tape, h.output, h.size, fun k hk hne => h.block k (by omega) (fun e => by injection e with e; exact hne e)⟩
theorem Chg.ofBelow {g lo : Nat} {w w' : World} (h : Below lo w w') : Chg g lo w w' := ⟨h.os, h.tape, h.output, h.size, fun k hk _ => h.block k hk⟩
theorem Chg.below {g lo : Nat} {w w' : World} (h : Chg g lo w w') (hg : g ≤ lo) : Below g w w' := ⟨h.os, h.tape, h.output, h.size, fun k hk => h.block k (by omega) (by omega)⟩
theorem Chg.grown {g : Nat} {w w' : World} (h : Chg g w.heap.size w w') : w.grownBy w' (some g) := ⟨h.os, h.tape, h.output, h.size, fun k hk hne => h.block k hk (fun e => hne (by rw [e]))⟩
theorem Chg.push {g lo : Nat} {w0 w w1 : World} {o : Obj} {row : Option Nat} (hb : Chg g lo w0 w) (hB : lo ≤ w.heap.size) (hg : (w.alloc o).grownBy w1 row) (hr : ∀ k, row = some k → lo ≤ k) : Chg g lo w0 w1 :=
  hb.trans (.ofBelow (((Below.refl lo w).alloc hB o).grown hg (by simp; omega) hr))

set_option maxHeartbeats 400000 in
theorem bent_any (g q lo : Nat) (a : Option Addr) (c : Nat) (M : List Int) (bs : List Int) (w : World) (hq : q ≤ 900000) (h : Rdr w g bs q) (hs : SmallParts M) (ho : Own w lo w.heap.size 3 (.slice a M.length c) (ints M)) (hlo : g < lo) (hloW : lo ≤ w.heap.size) :
    Calls Try.prog 68 #[.pointer (some ⟨g, 0, none⟩), .slice a M.length c] w fun e w' => ∃ a' c' M', e = .returned (.slice a' M'.length c') ∧ Own w' lo w'.heap.size 3 (.slice a' M'.length c') (ints M') ∧ Small M' ∧ (∃ q', q' ≤ q + 4 ∧ Rdr w' g bs q') ∧ Chg g lo w w' := by
  obtain ⟨i0, hi, hz0, hz1, hz2⟩ := T_int'
  have hlt := h.lt
  have hM16 := hs.1
  have HSM : Hid (Small M) := Lib.hid ⟨by omega, fun x hx => by have := hs.2 x hx; omega⟩
  have HS := Lib.hid hs
  clear hs
  have HO := Lib.hid ho
  clear ho
  go_enter Try.func68, Try.ntmps68
  go_wp2_with fail
  refine (pick_any g _ _ bs _ (by omega) (by omega) h).mono ?_
  rintro e w1 ⟨y, rfl, hy0, hy1, h1, hg1, -⟩
  clear hy1
  have hb1 : Chg g lo w w1 := .of hg1 hloW
  have hown1 := (HO.out.chg hg1 hlo).more
  clear HO hg1
  have hlt1 := h1.lt
  by_cases h0 : y = 0
  · subst h0
    by_cases hM0 : 0 < M.length
    · have hM0' : (0 : Int) < (M.length : Int) := by omega
      have HO1 := Lib.hid hown1
      clear hown1
      go_wp2_with fail
      refine (pick_any g _ _ bs _ (by omega) (by omega) h1).mono ?_
      rintro e w2 ⟨y2, rfl, hy20, hy21, h2, hg2, -⟩
      obtain ⟨y2, rfl⟩ := Int.eq_ofNat_of_zero_le hy20
      have hyM : y2 < M.length := by have := hy21 (by omega); omega
      clear hy21
      have HO2 := Lib.hid (HO1.out.chg hg2 hlo).more
      have hlt2 := h2.lt
      have hb2 : Chg g lo w w2 := hb1.trans (.of hg2 (by have := hb1.size; omega))
      clear HO1 hg2
      go_wp2_with fail
      refine (one_any g _ _ _ _ [0, -1, 17, 9] bs _ (by simp) (by simp) (by omega) (h2.below ((Below.refl _ _).alloc hlt2 _)) (rd_new w2 _ _) (by intro b o e; injection e with e; injection e with e; omega)).mono ?_
      rintro e w3 ⟨k, hk, rfl, h3, hg3, -⟩
      have hx : ∀ x ∈ ([0, -1, 17, 9] : List Int), -1 ≤ x ∧ x ≤ 17 := by decide
      have hx1 := hx _ (List.getElem_mem hk)
      obtain ⟨x, hxx⟩ : ∃ x, x = ([0, -1, 17, 9] : List Int)[k] := ⟨_, rfl⟩
      rw [← hxx] at hx1 ⊢
      clear hx hxx hk
      have hown3 := ((HO2.out.alloc (.cells (ints [0, -1, 17, 9]).toArray 3)).chg hg3 hlo).more
      have hsz2 := hb2.size
      have hb3 : Chg g lo w w3 := (hb2.trans (.ofBelow ((Below.refl lo w2).alloc (by omega) _))).trans (.of hg3 (by simp; omega))
      clear HO2 hg3
      obtain ⟨g2, u, rfl, hlo2, hhi2, hc2, hf2⟩ := hown3.spot (k := y2) (by simpa using hyM)
      have HO3 := Lib.hid hown3
      clear hown3
      have hcs : ∀ v, Chg g lo w (w3.setCell ⟨g2, y2, none⟩ v) := fun v => hb3.trans (.ofBelow ((Below.refl lo w3).setCell (by show lo ≤ g2; omega) v))
      have HCS := Lib.hid hcs
      clear hcs
      have HRS : Hid (∀ v, Rdr (w3.setCell ⟨g2, y2, none⟩ v) g bs (q + 1 + 1 + 1)) := Lib.hid fun v => h3.below ((Below.refl _ _).setCell (by show g + 1 ≤ g2; omega) v)
      go_wp2_with fail
      go_ret
      have e := HO3.out.set y2 (.int .i64 x)
      have hset : (ints M).set y2 (.int .i64 x) = ints (M.set y2 x) := by simp [ints, List.map_set]
      rw [hset] at e
      refine ⟨some ⟨g2, 0, none⟩, c, M.set y2 x, by simp, by simpa using e.more, ⟨by simpa using HSM.out.1, fun z hz => ?_⟩, ⟨_, by omega, HRS.out _⟩, HCS.out _⟩
      rcases List.mem_or_eq_of_mem_set hz with hz | rfl
      · exact HSM.out.2 z hz
      · exact hx1
    · have hM0' : (M.length : Int) ≤ 0 := by omega
      have hd0 : decide (0 < M.length) = false := decide_eq_false hM0
      have HO1 := Lib.hid hown1
      clear hown1
      go_wp2_with fail
      go_ret
      exact ⟨a, c, M, rfl, HO1.out, HSM.out, ⟨q + 1, by omega, h1⟩, hb1⟩
  · have e0 : (y == 0) = false := by simp; omega
    by_cases h1' : y = 1
    · subst h1'
      have hlo1 : lo ≤ w1.heap.size := by
        rcases hown1.row.2 with ⟨_, h⟩ | ⟨g2, cap, cur, _, hb, hg, _⟩
        · exact Nat.le_trans hloW hb1.size
        · have := (Array.getElem?_eq_some_iff.1 hg).1; omega
      have hlen2 : (ints M).length = M.length := by simp
      go_wp2_with (at_builtin; refine wpList_append_o _ rfl (.tmp 23) (.tmp 24) 22 rfl lo w1.heap.size 3 i0 (.int .i64 0) 8 Try.underlying22 hi hz0 hz1 hz2 rfl _ (ints M) rfl (hown1.alloc _) (w1.heap.size + 1) (some ⟨w1.heap.size, 0, none⟩) 1 1 (ints [9]) rfl (rd_new w1 _ _) rfl (ints_one _) (by rw [hlen2]; unfold maxLen; omega) (by rw [hlen2]; omega) (by simp; omega) ?_; intro v' w3 ho3 hg3 hat3)
      go_ret
      have e : ints M ++ ints [9] = ints (M ++ [9]) := by simp [ints]
      rw [e] at ho3
      obtain ⟨a', c', rfl⟩ := ho3.form
      have hl3 : (ints (M ++ [9])).length = (M ++ [9]).length := by simp
      rw [hl3] at ho3 ⊢
      refine ⟨a', c', M ++ [9], rfl, ho3, ⟨by simp; omega, fun x hx => ?_⟩, ⟨q + 1, by omega, (h1.row (World.grownBy_alloc w1 _ none) (by simp)).row hg3 (fun k hk => by have := hown1.base k hk; omega)⟩, Chg.push hb1 hlo1 hg3 hown1.base⟩
      rcases List.mem_append.1 hx with hx | hx
      · exact HSM.out.2 x hx
      · have : ∀ x ∈ ([9] : List Int), -1 ≤ x ∧ x ≤ 17 := by decide
        exact this x hx
    · have e1 : (y == 1) = false := by simp; omega
      by_cases h2' : y = 2
      · subst h2'
        have hlo1 : lo ≤ w1.heap.size := by
          rcases hown1.row.2 with ⟨_, h⟩ | ⟨g2, cap, cur, _, hb, hg, _⟩
          · exact Nat.le_trans hloW hb1.size
          · have := (Array.getElem?_eq_some_iff.1 hg).1; omega
        have hlen2 : (ints M).length = M.length := by simp
        go_wp2_with (at_builtin; refine wpList_append_o _ rfl (.tmp 28) (.tmp 29) 22 rfl lo w1.heap.size 3 i0 (.int .i64 0) 8 Try.underlying22 hi hz0 hz1 hz2 rfl _ (ints M) rfl (hown1.alloc _) (w1.heap.size + 1) (some ⟨w1.heap.size, 0, none⟩) 16 16 (ints [1, 1, 1, 1, 1, 1, 1, 1, 1, 1, 1, 1, 1, 1, 1, 1]) rfl (rd_new w1 _ _) rfl (ints_one _) (by rw [hlen2]; unfold maxLen; omega) (by rw [hlen2]; omega) (by simp; omega) ?_; intro v' w3 ho3 hg3 hat3)
        go_ret
        have e : ints M ++ ints [1, 1, 1, 1, 1, 1, 1, 1, 1, 1, 1, 1, 1, 1, 1, 1] = ints (M ++ [1, 1, 1, 1, 1, 1, 1, 1, 1, 1, 1, 1, 1, 1, 1, 1]) := by simp [ints]
        rw [e] at ho3
        obtain ⟨a', c', rfl⟩ := ho3.form
        have hl3 : (ints (M ++ [1, 1, 1, 1, 1, 1, 1, 1, 1, 1, 1, 1, 1, 1, 1, 1])).length = (M ++ [1, 1, 1, 1, 1, 1, 1, 1, 1, 1, 1, 1, 1, 1, 1, 1]).length := by simp
        rw [hl3] at ho3 ⊢
        refine ⟨a', c', M ++ [1, 1, 1, 1, 1, 1, 1, 1, 1, 1, 1, 1, 1, 1, 1, 1], rfl, ho3, ⟨by simp; omega, fun x hx => ?_⟩, ⟨q + 1, by omega, (h1.row (World.grownBy_alloc w1 _ none) (by simp)).row hg3 (fun k hk => by have := hown1.base k hk; omega)⟩, Chg.push hb1 hlo1 hg3 hown1.base⟩
        rcases List.mem_append.1 hx with hx | hx
        · exact HSM.out.2 x hx
        · have : ∀ x ∈ ([1, 1, 1, 1, 1, 1, 1, 1, 1, 1, 1, 1, 1, 1, 1, 1] : List Int), -1 ≤ x ∧ x ≤ 17 := by decide
          exact this x hx
      · have e2 : (y == 2) = false := by simp; omega
        have HO1 := Lib.hid hown1
        clear hown1
        go_wp2_with fail
        go_ret
        exact ⟨a, c, M, rfl, HO1.out, HSM.out, ⟨q + 1, by omega, h1⟩, hb1⟩

theorem someParts_grown (g q : Nat) (bs : List Int) (w : World) (hq : q ≤ 700000) (h : Rdr w g bs q) :
    Calls Try.prog 63 #[.pointer (some ⟨g, 0, none⟩)] w fun e w' => ∃ a' c' M, e = .returned (.slice a' M.length c') ∧ Own w' w.heap.size w'.heap.size 3 (.slice a' M.length c') (ints M) ∧ Small M ∧ (∃ q', q' ≤ q + 50 ∧ Rdr w' g bs q') ∧ w.grownBy w' (some g) := by
  have hlt := h.lt
  go_enter Try.func63, Try.ntmps63
  go_wp2_with fail
  refine (goodParts_any g q bs _ (by omega) h).mono ?_
  rintro e w1 ⟨a', c', M, rfl, ho, hs, ⟨q', hq', h1⟩, hg1⟩
  have hb1 : Chg g w.heap.size w w1 := .of hg1 (Nat.le_refl _)
  have hz := hg1.size
  clear hg1
  go_wp2_with fail
  refine (bent_any g q' w.heap.size _ _ M bs _ (by omega) h1 hs ho hlt hz).mono ?_
  rintro e w2 ⟨a2, c2, M2, rfl, ho2, hs2, ⟨q2, hq2, h2⟩, hb2⟩
  go_wp2_with fail
  go_ret
  exact ⟨a2, c2, M2, rfl, ho2, hs2, ⟨q2, by omega, h2⟩, (hb1.trans hb2).grown⟩
theorem someParts_any (g q : Nat) (bs : List Int) (w : World) (hq : q ≤ 700000) (h : Rdr w g bs q) :
    Calls Try.prog 63 #[.pointer (some ⟨g, 0, none⟩)] w fun e w' => ∃ a' c' M, e = .returned (.slice a' M.length c') ∧ Own w' w.heap.size w'.heap.size 3 (.slice a' M.length c') (ints M) ∧ Small M ∧ (∃ q', q' ≤ q + 50 ∧ Rdr w' g bs q') ∧ Below g w w' := by
  have hlt := h.lt
  refine (someParts_grown g q bs w hq h).mono ?_
  rintro e w' ⟨a', c', M, he, ho, hs, hr, hg⟩
  refine ⟨a', c', M, he, ho, hs, hr, ?_⟩
  rcases chg_low hg with hb | hb
  · exact hb
  · omega












end Go.Proofs.Ytbbbfaollcklkaa

namespace Go.Proofs.Ytbbbfaollcklkaa
namespace NP
set_option linter.unusedVariables false
theorem mono_split {A B : List Int} (h : mono (A ++ B)) : mono A ∧ mono B ∧ ∀ x ∈ A, ∀ y ∈ B, y ≤ x := by
  induction A with
  | nil => exact ⟨trivial, h, fun x hx => by simp at hx⟩
  | cons x r ih =>
    obtain ⟨h1, h2⟩ := h
    obtain ⟨h3, h4, h5⟩ := ih h2
    refine ⟨⟨fun y hy => h1 y (List.mem_append_left _ hy), h3⟩, h4, fun z hz y hy => ?_⟩
    rcases List.mem_cons.1 hz with rfl | hz
    · exact h1 y (List.mem_append_right _ hy)
    · exact h5 z hz y hy
theorem mono_head {D : List Int} (h : mono D) (i : Nat) (hi : i < D.length) : D[i] ≤ D[0]'(by omega) := by
  match D, h with
  | [], _ => simp at hi
  | y :: t, h =>
    match i, hi with
    | 0, _ => exact Int.le_refl _
    | i + 1, hi => exact h.1 _ (List.getElem_mem _)
theorem insK_mono {M : List Int} (h : mono M) (x : Int) : mono (insK M x) := by
  have hs := ff_spec (fun (j : Nat) => decide (x ≤ M.getD j 0)) M.length
  have e := List.take_append_drop (posOf x M) M
  rw [← e] at h
  obtain ⟨h1, h2, h3⟩ := mono_split h
  have hd : ∀ y ∈ M.drop (posOf x M), y ≤ x := fun y hy => by
    obtain ⟨i, hi, rfl⟩ := List.getElem_of_mem hy
    simp at hi
    rcases hs.2.2 with hs2 | hs2
    · have : posOf x M = M.length := hs2
      omega
    · have hp : posOf x M < M.length := by omega
      have hx : ¬ x ≤ M.getD (posOf x M) 0 := of_decide_eq_false hs2
      rw [getD_lt hp] at hx
      have h4 := mono_head h2 i (by simp; omega)
      simp at h4
      rw [List.getElem_drop]
      omega
  unfold insK
  refine mono_append h1 ⟨hd, h2⟩ fun a ha b hb => ?_
  rcases List.mem_cons.1 hb with rfl | hb
  · obtain ⟨i, hi, rfl⟩ := List.getElem_of_mem ha
    simp at hi
    have := of_decide_eq_true (hs.2.1 i (by unfold posOf at hi; omega))
    rw [getD_lt (by omega)] at this
    rw [List.getElem_take]
    exact this
  · exact h3 a ha b hb
theorem insK_eqc (M : List Int) (x k : Int) : eqc k (insK M x) = eqc k M + (if x = k then 1 else 0) := by
  have e : eqc k M = eqc k (M.take (posOf x M)) + eqc k (M.drop (posOf x M)) := by rw [← eqc_append, List.take_append_drop]
  unfold insK
  rw [eqc_append, eqc_cons, e]
  omega
theorem insK_sum (M : List Int) (x : Int) : sumL (insK M x) = sumL M + x := by
  have e : sumL M = sumL (M.take (posOf x M)) + sumL (M.drop (posOf x M)) := by rw [← sumL_append, List.take_append_drop]
  unfold insK
  rw [sumL_append, sumL, e]
  omega
theorem fold_facts (L : List Int) : ∀ M, mono M → mono (L.foldl insK M) ∧ (∀ k, eqc k (L.foldl insK M) = eqc k M + eqc k L) ∧ sumL (L.foldl insK M) = sumL M + sumL L := by
  induction L with
  | nil => intro M h; exact ⟨h, fun k => by simp [eqc], by simp [sumL]⟩
  | cons x r ih =>
    intro M h
    obtain ⟨h1, h2, h3⟩ := ih (insK M x) (insK_mono h x)
    refine ⟨h1, fun k => ?_, ?_⟩
    · rw [List.foldl_cons, h2, insK_eqc, eqc_cons]; omega
    · rw [List.foldl_cons, h3, insK_sum, sumL]; omega
theorem mrg_mono (L : List Int) : mono (mrg L) := (fold_facts L [] trivial).1
theorem mrg_eqc (L : List Int) (k : Int) : eqc k (mrg L) = eqc k L := by have := (fold_facts L [] trivial).2.1 k; unfold mrg; simpa [eqc] using this
theorem mrg_sum (L : List Int) : sumL (mrg L) = sumL L := by have := (fold_facts L [] trivial).2.2; unfold mrg; simpa [sumL] using this
theorem mrg_len (L : List Int) : (mrg L).length = L.length := by have := (fold_ins L []).1; unfold mrg; simpa using this
theorem mrg_mem {L : List Int} {y : Int} (h : y ∈ mrg L) : y ∈ L := by
  rcases (fold_ins L []).2 y h with h | h
  · exact h
  · simp at h
theorem cnt_eqc {A B : List Int} (h : ∀ k, eqc k A = eqc k B) (hl : A.length = B.length) (t : Int) : cnt t A = cnt t B := by
  induction A generalizing B with
  | nil =>
    have : B = [] := List.eq_nil_of_length_eq_zero (by simp at hl; omega)
    subst this; rfl
  | cons x r ih =>
    have hx : x ∈ B := eqc_mem (by rw [← h x]; exact eqc_pos (by simp))
    obtain ⟨b1, b2, rfl⟩ := List.append_of_mem hx
    have h2 := ih (B := b1 ++ b2) (fun k => by
      have := h k
      rw [eqc_cons, eqc_append, eqc_cons] at this
      rw [eqc_append]; omega) (by simp at hl ⊢; omega)
    rw [cnt, h2, cnt_append, cnt_append, cnt]
    omega
theorem mono_get {L : List Int} (h : mono L) (j : Nat) (hj : j + 1 < L.length) : L[j + 1] ≤ L[j] := by
  induction L generalizing j with
  | nil => simp at hj
  | cons x r ih =>
    match j with
    | 0 => simp; exact h.1 _ (List.getElem_mem _)
    | j + 1 => simpa using ih h.2 j (by simp at hj; omega)
theorem valid_mono {M : List Int} (h : mono M) (h1 : ∀ x ∈ M, 1 ≤ x) (hs : sumL M ≤ 16) : valid M = true := by
  refine valid_of_preS (fun j hj _ => ?_) hs
  have hb := (elem_le_sum (fun x hx => by have := h1 x hx; omega) hj).1
  refine ⟨h1 _ (List.getElem_mem hj), by omega, fun h0 => ?_⟩
  have := mono_get h (j - 1) (by omega)
  simp only [show j - 1 + 1 = j by omega] at this
  exact this
def uni (P Q : List Int) : List Int := mrg (P ++ Q)
theorem valid_ge1 {L : List Int} (h : valid L = true) : ∀ x ∈ L, 1 ≤ x := fun x hx => by
  obtain ⟨k, hk, rfl⟩ := List.getElem_of_mem hx
  exact (preS_of_valid h k hk hk).1
theorem uni_ge1 {P Q : List Int} (h : two P Q = true) : ∀ x ∈ uni P Q, 1 ≤ x := fun x hx => by
  obtain ⟨hp, hq, _⟩ := two_out h
  rcases List.mem_append.1 (mrg_mem hx) with hx | hx
  · exact valid_ge1 hp x hx
  · exact valid_ge1 hq x hx
theorem valid_uni {P Q : List Int} (h : two P Q = true) : valid (uni P Q) = true :=
  valid_mono (mrg_mono _) (uni_ge1 h) (by unfold uni; rw [mrg_sum, sumL_append]; exact (two_out h).2.2)
theorem um_uni {P Q : List Int} (h : two P Q = true) : (um (fun i => P.getD i 0) (fun i => Q.getD i 0) 16).1 = pad (uni P Q) :=
  um_end h (mrg_mono _) (fun k => by unfold uni; rw [mrg_eqc, eqc_append]) (by unfold uni; rw [mrg_len]; simp) (uni_ge1 h)
def uniF (P Q : List Int) : List Int := if two P Q then uni P Q else []
theorem uniF_yes {P Q : List Int} (h : two P Q = true) : uniF P Q = uni P Q := by simp [uniF, h]
theorem uniF_no {P Q : List Int} (h : two P Q = false) : uniF P Q = [] := by simp [uniF, h]
theorem uniF_len (P Q : List Int) : (uniF P Q).length ≤ 16 := by
  unfold uniF
  split
  · rename_i h
    exact (valid_bd (valid_uni h)).2.2.2
  · simp
/-- parts with the same numbers at all places are the same -/
theorem valid_ext {A B : List Int} (hA : valid A = true) (hB : valid B = true) (h : ∀ j, A.getD j 0 = B.getD j 0) : A = B := by
  have hl : A.length = B.length := by
    rcases Nat.lt_trichotomy A.length B.length with h1 | h1 | h1
    · have := h A.length
      rw [getD_ge (Nat.le_refl _)] at this
      have := getD_pos hB h1
      omega
    · exact h1
    · have := h B.length
      rw [getD_ge (L := B) (Nat.le_refl _)] at this
      have := getD_pos hA h1
      omega
  apply List.ext_getElem hl
  intro j h1 h2
  have := h j
  rwa [getD_lt h1, getD_lt h2] at this
theorem conj_getD {L : List Int} (h : valid L = true) (j : Nat) : (conj L).getD j 0 = cnt ((j : Int) + 1) L := by
  rcases Nat.lt_or_ge j (conj L).length with h1 | h1
  · rw [getD_lt h1, conj_get]
  · rw [getD_ge h1]
    rw [conj_len] at h1
    exact (cnt_none fun x hx => by have := head_ge h x hx; omega).symm
theorem two_conj {P Q : List Int} (h : two P Q = true) : two (conj P) (conj Q) = true := by
  obtain ⟨hp, hq, hs⟩ := two_out h
  unfold two
  rw [valid_conj hp, valid_conj hq, sumL_conj hp, sumL_conj hq, decide_eq_true hs]
  rfl
theorem cnt_uni (P Q : List Int) (t : Int) : cnt t (uni P Q) = cnt t P + cnt t Q := by
  rw [← cnt_append]
  exact cnt_eqc (fun k => by unfold uni; rw [mrg_eqc]) (by unfold uni; rw [mrg_len]) t
theorem conj_uni {P Q : List Int} (h : two P Q = true) : conj (uni P Q) = adp (conj P) (conj Q) := by
  obtain ⟨hp, hq, hs⟩ := two_out h
  refine valid_ext (valid_conj (valid_uni h)) (valid_adp (two_conj h)) fun j => ?_
  rw [conj_getD (valid_uni h), adp_getD, conj_getD hp, conj_getD hq, cnt_uni]
theorem conj_adp {P Q : List Int} (h : two P Q = true) : conj (adp P Q) = uni (conj P) (conj Q) := by
  obtain ⟨hp, hq, hs⟩ := two_out h
  have h2 := two_conj h
  have e := conj_uni h2
  rw [conj_conj hp, conj_conj hq] at e
  rw [← e, conj_conj (valid_uni h2)]
theorem adp_comm (P Q : List Int) : adp P Q = adp Q P := by
  unfold adp
  rw [Nat.max_comm]
  apply List.map_congr_left
  intro i _
  omega
theorem two_comm (P Q : List Int) : two P Q = two Q P := by
  unfold two
  rw [Int.add_comm (sumL P), Bool.and_comm (valid P)]
theorem uni_len (P Q : List Int) : (uni P Q).length = P.length + Q.length := by unfold uni; rw [mrg_len]; simp
end NP
end Go.Proofs.Ytbbbfaollcklkaa
namespace Go.Proofs.Ytbbbfaollcklkaa
namespace NP
def sqRT (L : List Int) (d : Int) (k : Nat) : List Int := ((List.range k).filter fun i => decide (d < L.getD i 0)).map fun i => L.getD i 0 - d
theorem sqRT_succ (L : List Int) (d : Int) (k : Nat) : sqRT L d (k + 1) = sqRT L d k ++ if d < L.getD k 0 then [L.getD k 0 - d] else [] := by
  unfold sqRT
  rw [List.range_succ, List.filter_append, List.map_append]
  obtain ⟨f, hf⟩ : ∃ f : Nat → Int, ∀ i, L.getD i 0 = f i := ⟨_, fun _ => rfl⟩
  simp only [hf]
  congr 1
  by_cases h : d < f k <;> simp [h]
theorem sqRT_len (L : List Int) (d : Int) (k : Nat) : (sqRT L d k).length ≤ k := by
  unfold sqRT
  rw [List.length_map]
  exact Nat.le_trans (List.length_filter_le _ _) (by simp)
def sqR (L : List Int) : List Int := sqRT L (durS L) (durS L)
def sqB (L : List Int) : List Int := L.drop (durS L)
def sqRF (L : List Int) : List Int := if valid L then sqR L else []
def sqBF (L : List Int) : List Int := if valid L then sqB L else []
def sqD (L : List Int) : Int := if valid L then (durS L : Int) else 0
theorem sqRF_yes {L : List Int} (h : valid L = true) : sqRF L = sqR L := by simp [sqRF, h]
theorem sqRF_no {L : List Int} (h : valid L = false) : sqRF L = [] := by simp [sqRF, h]
theorem sqBF_yes {L : List Int} (h : valid L = true) : sqBF L = sqB L := by simp [sqBF, h]
theorem sqBF_no {L : List Int} (h : valid L = false) : sqBF L = [] := by simp [sqBF, h]
theorem sqD_yes {L : List Int} (h : valid L = true) : sqD L = (durS L : Int) := by simp [sqD, h]
theorem sqD_no {L : List Int} (h : valid L = false) : sqD L = 0 := by simp [sqD, h]
/-- what stands in the rows of the square, less the square -/
def sqArr (L : List Int) : List Int := (List.range 16).map fun j => if j < durS L then L.getD j 0 - (durS L : Int) else 0
def sqOk (d : Int) (R B : List Int) : Bool := decide (0 ≤ d) && decide (d ≤ 16) && valid R && valid B && decide ((R.length : Int) ≤ d) && decide (B.getD 0 0 ≤ d) && decide (d * d + sumL R + sumL B ≤ 16)
def sqPut (d : Int) (R B : List Int) : List Int := adp (List.replicate d.toNat d) R ++ B
def sqPutF (d : Int) (R B : List Int) : List Int := if sqOk d R B then sqPut d R B else []
theorem sqPutF_yes {d : Int} {R B : List Int} (h : sqOk d R B = true) : sqPutF d R B = sqPut d R B := by simp [sqPutF, h]
theorem sqPutF_no {d : Int} {R B : List Int} (h : sqOk d R B = false) : sqPutF d R B = [] := by simp [sqPutF, h]
theorem sqOk_iff (d : Int) (R B : List Int) : sqOk d R B = true ↔ 0 ≤ d ∧ d ≤ 16 ∧ valid R = true ∧ valid B = true ∧ (R.length : Int) ≤ d ∧ B.getD 0 0 ≤ d ∧ d * d + sumL R + sumL B ≤ 16 := by
  simp [sqOk, and_assoc]

def sqTab (N : List Nat) : Bool :=
  let L := N.map Int.ofNat
  valid (sqR L) && valid (sqB L) && decide (pad (sqR L) = sqArr L) && decide (sqR (conj L) = conj (sqB L)) && decide (sqB (conj L) = conj (sqR L)) && sqOk (durS L) (sqR L) (sqB L) && decide (sqPut (durS L) (sqR L) (sqB L) = L)
set_option maxRecDepth 100000 in
theorem sqTab_all : all16.all sqTab = true := by decide +kernel
theorem sq_facts {L : List Int} (h : valid L = true) : valid (sqR L) = true ∧ valid (sqB L) = true ∧ pad (sqR L) = sqArr L ∧ sqR (conj L) = conj (sqB L) ∧ sqB (conj L) = conj (sqR L) ∧ sqOk (durS L) (sqR L) (sqB L) = true ∧ sqPut (durS L) (sqR L) (sqB L) = L := by
  obtain ⟨N, hN, rfl⟩ := of_all sqTab_all h
  simp only [sqTab, Bool.and_eq_true, decide_eq_true_eq] at hN
  obtain ⟨⟨⟨⟨⟨⟨h1, h2⟩, h3⟩, h4⟩, h5⟩, h6⟩, h7⟩ := hN
  exact ⟨h1, h2, h3, h4, h5, h6, h7⟩
theorem sqRF_len (L : List Int) : (sqRF L).length ≤ 16 := by
  unfold sqRF
  split
  · rename_i h; exact (valid_bd (sq_facts h).1).2.2.2
  · simp
theorem sqBF_len (L : List Int) : (sqBF L).length ≤ 16 := by
  unfold sqBF
  split
  · rename_i h; exact (valid_bd (sq_facts h).2.1).2.2.2
  · simp

/-- the square itself -/
def sqs (n : Nat) : List Int := List.replicate n (n : Int)
theorem sqs_valid {n : Nat} (h : n ≤ 4) : valid (sqs n) = true := by
  match n, h with
  | 0, _ => rfl
  | 1, _ => rfl
  | 2, _ => rfl
  | 3, _ => rfl
  | 4, _ => rfl
theorem sumL_rep (n : Nat) (x : Int) : sumL (List.replicate n x) = (n : Int) * x := by
  induction n with
  | zero => simp [sumL]
  | succ n ih =>
    rw [List.replicate_succ]
    show x + sumL _ = _
    rw [ih, Int.natCast_add, Int.add_mul]
    simp
    omega
theorem sqs_sum (n : Nat) : sumL (sqs n) = (n : Int) * (n : Int) := sumL_rep n n
theorem sqs_getD (n i : Nat) : (sqs n).getD i 0 = if i < n then (n : Int) else 0 := by
  unfold sqs
  rw [List.getD_eq_getElem?_getD, List.getElem?_replicate]
  split <;> rfl
theorem sq4 {n : Nat} {x : Int} (hx : 0 ≤ x) (h : (n : Int) * (n : Int) + x ≤ 16) : n ≤ 4 := by
  rcases Nat.lt_or_ge 4 n with h1 | h1
  · have h2 : (5 : Int) * 5 ≤ (n : Int) * (n : Int) := Int.mul_le_mul (by omega) (by omega) (by omega) (by omega)
    omega
  · exact h1
theorem sq_put {n : Nat} {R B : List Int} (h : sqOk n R B = true) :
    two (sqs n) R = true ∧ two (adp (sqs n) R) B = true ∧ sqPut n R B = adp (sqs n) R ++ B ∧ mono (adp (sqs n) R ++ B) ∧ (adp (sqs n) R).length = n ∧ (∀ x ∈ adp (sqs n) R ++ B, 1 ≤ x) ∧ valid (sqPut n R B) = true := by
  obtain ⟨h0, h16, hvR, hvB, hRl, hB0, hs⟩ := (sqOk_iff _ _ _).1 h
  have bR := valid_bd hvR
  have bB := valid_bd hvB
  have h4 : n ≤ 4 := sq4 (x := sumL R + sumL B) (by omega) (by omega)
  have hv := sqs_valid h4
  have hss := sqs_sum n
  have t1 : two (sqs n) R = true := by simp [two, hv, hvR, hss]; omega
  have hvP := valid_adp t1
  have hsP := adp_sum (sqs n) R
  have t2 : two (adp (sqs n) R) B = true := by simp [two, hvP, hvB, hsP, hss]; omega
  have hlP : (adp (sqs n) R).length = n := by rw [adp_len]; simp [sqs]; omega
  have hge : ∀ x ∈ adp (sqs n) R, (n : Int) ≤ x := fun x hx => by
    obtain ⟨i, hi, rfl⟩ := List.getElem_of_mem hx
    have e := adp_getD (sqs n) R i
    rw [getD_lt hi, sqs_getD, if_pos (by omega)] at e
    have := (getD_nn hvR i).1
    omega
  have hle : ∀ y ∈ B, y ≤ (n : Int) := fun y hy => by
    have := head_ge hvB y hy
    have e : B.headD 0 = B.getD 0 0 := by cases B <;> rfl
    omega
  have hm : mono (adp (sqs n) R ++ B) := mono_append (mono_valid hvP) (mono_valid hvB) fun x hx y hy => by
    have := hge x hx
    have := hle y hy
    omega
  have h1 : ∀ x ∈ adp (sqs n) R ++ B, 1 ≤ x := fun x hx => by
    rcases List.mem_append.1 hx with hx | hx
    · exact valid_ge1 hvP x hx
    · exact valid_ge1 hvB x hx
  have hput : sqPut n R B = adp (sqs n) R ++ B := by unfold sqPut sqs; simp
  refine ⟨t1, t2, hput, hm, hlP, h1, ?_⟩
  rw [hput]
  exact valid_mono hm h1 (by rw [sumL_append, hsP, hss]; omega)
theorem sq_um {n : Nat} {R B : List Int} (h : sqOk n R B = true) : (um (fun i => (adp (sqs n) R).getD i 0) (fun i => B.getD i 0) 16).1 = pad (sqPut n R B) := by
  obtain ⟨_, t2, hp, hm, _, h1, _⟩ := sq_put h
  rw [hp]
  exact um_end t2 hm (fun k => eqc_append k _ _) (List.length_append) h1
theorem getD_app (A B : List Int) (j : Nat) : (A ++ B).getD j 0 = if j < A.length then A.getD j 0 else B.getD (j - A.length) 0 := by
  rw [List.getD_eq_getElem?_getD, List.getElem?_append]
  split <;> rw [List.getD_eq_getElem?_getD]
theorem sq_back {n : Nat} {R B : List Int} (h : sqOk n R B = true) : durS (sqPut n R B) = n ∧ sqR (sqPut n R B) = R ∧ sqB (sqPut n R B) = B := by
  obtain ⟨t1, t2, hp, hm, hl, h1, hv⟩ := sq_put h
  obtain ⟨h0, h16, hvR, hvB, hRl, hB0, hs⟩ := (sqOk_iff _ _ _).1 h
  have hg : ∀ j, j < n → (sqPut n R B).getD j 0 = (n : Int) + R.getD j 0 := fun j hj => by
    rw [hp, getD_app, if_pos (by omega), adp_getD, sqs_getD, if_pos hj]
  have hd : durS (sqPut n R B) = n := durS_unique (fun j hj => by rw [hg j hj]; have := (getD_nn hvR j).1; omega) (by
    rw [hp, getD_app, if_neg (by omega), hl, Nat.sub_self]
    omega)
  have hRt : ∀ k, k ≤ n → sqRT (sqPut n R B) (n : Int) k = R.take k := by
    intro k
    induction k with
    | zero => intro _; simp [sqRT]
    | succ k ih =>
      intro hk
      rw [sqRT_succ, ih (by omega), hg k (by omega)]
      by_cases hkR : k < R.length
      · have := getD_pos hvR hkR
        rw [if_pos (by omega), List.take_succ_eq_append_getElem hkR, getD_lt hkR]
        congr 2
        omega
      · rw [getD_ge (L := R) (by omega), if_neg (by omega), List.append_nil, List.take_of_length_le (by omega), List.take_of_length_le (by omega)]
  refine ⟨hd, ?_, ?_⟩
  · unfold sqR
    rw [hd, hRt n (Nat.le_refl _), List.take_of_length_le (by omega)]
  · unfold sqB
    rw [hd, hp, List.drop_append, List.drop_eq_nil_of_le (by omega), hl, Nat.sub_self]
    rfl
theorem sqPutF_len (d : Int) (R B : List Int) : (sqPutF d R B).length ≤ 16 := by
  unfold sqPutF
  split
  · rename_i h
    obtain ⟨n, rfl⟩ := Int.eq_ofNat_of_zero_le ((sqOk_iff _ _ _).1 h).1
    exact (valid_bd (sq_put h).2.2.2.2.2.2).2.2.2
  · simp

/-- doubled parts -/
def dbl (P : List Int) : List Int := P.map fun x => 2 * x
theorem adp_self (P : List Int) : adp P P = dbl P := by
  apply List.ext_getElem
  · simp [adp, dbl]
  · intro i h1 h2
    have hi : i < P.length := by simpa [dbl] using h2
    simp [adp, dbl, List.getElem?_eq_getElem hi]
    omega
theorem two_self (P : List Int) : two P P = (valid P && decide (2 * sumL P ≤ 16)) := by
  unfold two
  cases valid P <;> simp
  constructor <;> intro h <;> omega
theorem dbl_take (P : List Int) (k : Nat) (h : k < P.length) : dbl (P.take (k + 1)) = dbl (P.take k) ++ [2 * P[k]] := by
  unfold dbl
  rw [List.take_succ_eq_append_getElem h, List.map_append]
  rfl
end NP
end Go.Proofs.Ytbbbfaollcklkaa
namespace Go.Proofs.Ytbbbfaollcklkaa
namespace NP
set_option linter.unusedVariables false
/-- arms of the first d places -/
def armsTo (L : List Int) (d : Nat) : List Int := (List.range d).map fun (i : Nat) => L.getD i 0 - ((i : Int) + 1)
theorem armsTo_len (L : List Int) (d : Nat) : (armsTo L d).length = d := by simp [armsTo]
theorem armsTo_succ (L : List Int) (d : Nat) : armsTo L (d + 1) = armsTo L d ++ [L.getD d 0 - ((d : Int) + 1)] := by
  unfold armsTo; rw [List.range_succ, List.map_append]; rfl
theorem armsTo_getD (L : List Int) (d i : Nat) (h : i < d) : (armsTo L d).getD i 0 = L.getD i 0 - ((i : Int) + 1) := by
  rw [getD_lt (by rw [armsTo_len]; exact h)]; simp [armsTo]
theorem armsTo_congr {L M : List Int} (h : ∀ i, L.getD i 0 = M.getD i 0) (d : Nat) : armsTo L d = armsTo M d := by
  unfold armsTo; exact List.map_congr_left fun i _ => by rw [h]
def froA (L : List Int) : List Int := armsTo L (durS L)
def froB (L : List Int) : List Int := armsTo (conj L) (durS L)
def froAF (L : List Int) : List Int := if valid L then froA L else []
def froBF (L : List Int) : List Int := if valid L then froB L else []
theorem froAF_yes {L : List Int} (h : valid L = true) : froAF L = froA L := by simp [froAF, h]
theorem froAF_no {L : List Int} (h : valid L = false) : froAF L = [] := by simp [froAF, h]
theorem froBF_yes {L : List Int} (h : valid L = true) : froBF L = froB L := by simp [froBF, h]
theorem froBF_no {L : List Int} (h : valid L = false) : froBF L = [] := by simp [froBF, h]
theorem durS_le {L : List Int} (h : valid L = true) : durS L ≤ 16 := Nat.le_trans (durS_spec L).1 (valid_bd h).2.2.2
theorem froAF_len (L : List Int) : (froAF L).length ≤ 16 := by
  unfold froAF
  split
  · rename_i h; unfold froA; rw [armsTo_len]; exact durS_le h
  · simp
theorem froBF_len (L : List Int) : (froBF L).length ≤ 16 := by
  unfold froBF
  split
  · rename_i h; unfold froB; rw [armsTo_len]; exact durS_le h
  · simp
/-- how many of the first n places q holds at -/
def nb (q : Nat → Bool) : Nat → Nat
  | 0 => 0
  | n + 1 => nb q n + if q n then 1 else 0
theorem nb_le (q : Nat → Bool) (n : Nat) : nb q n ≤ n := by
  induction n with
  | zero => exact Nat.le_refl _
  | succ n ih => simp only [nb]; split <;> omega
theorem nb_to {q : Nat → Bool} {m : Nat} (n : Nat) (h : ∀ i, i < n → (q i = true ↔ i < m)) : nb q n = min n m := by
  induction n with
  | zero => simp [nb]
  | succ n ih =>
    rw [nb, ih fun i hi => h i (by omega)]
    have := h n (by omega)
    split
    · rename_i hq; have := this.1 hq; omega
    · rename_i hq
      have : ¬ n < m := fun hc => hq (this.2 hc)
      omega
theorem nb_mono {q r : Nat → Bool} (n : Nat) (h : ∀ i, i < n → q i = true → r i = true) : nb q n ≤ nb r n := by
  induction n with
  | zero => exact Nat.le_refl _
  | succ n ih =>
    have h1 := ih fun i hi => h i (by omega)
    have h2 := h n (by omega)
    simp only [nb]
    split
    · rename_i hq; rw [if_pos (h2 hq)]; omega
    · split <;> omega
theorem nb_all {q : Nat → Bool} (n : Nat) (h : ∀ i, i < n → q i = true) : nb q n = n := by
  rw [nb_to (m := n) n fun i hi => ⟨fun _ => hi, fun _ => h i hi⟩]; omega
/-- strictly falling numbers of at least 0, all less than m -/
def dnB (m : Int) (A : List Int) : Bool := decide (∀ i, i < A.length → (0 ≤ A.getD i 0 ∧ A.getD i 0 < m ∧ (0 < i → A.getD i 0 < A.getD (i - 1) 0)))
theorem dnB_iff (m : Int) (A : List Int) : dnB m A = true ↔ ∀ i, i < A.length → (0 ≤ A.getD i 0 ∧ A.getD i 0 < m ∧ (0 < i → A.getD i 0 < A.getD (i - 1) 0)) := by simp [dnB]
theorem dnB_at {m : Int} {A : List Int} {i : Nat} (hi : i < A.length) (h : ¬ (0 ≤ A.getD i 0 ∧ A.getD i 0 < m ∧ (0 < i → A.getD i 0 < A.getD (i - 1) 0))) : dnB m A = false := by
  cases hd : dnB m A with
  | false => rfl
  | true => exact absurd ((dnB_iff m A).1 hd i hi) h
/-- those of the arms ahead are greater by their distance -/
theorem dn_gap {m : Int} {A : List Int} (h : dnB m A = true) : ∀ i j, j ≤ i → i < A.length → A.getD i 0 + ((i : Int) - j) ≤ A.getD j 0 := by
  intro i
  induction i with
  | zero => intro j hj hi; obtain rfl : j = 0 := (by omega); omega
  | succ i ih =>
    intro j hj hi
    rcases Nat.lt_or_ge j (i + 1) with h1 | h1
    · have h2 := ((dnB_iff m A).1 h (i + 1) hi).2.2 (by omega)
      simp only [Nat.add_sub_cancel] at h2
      have := ih j (by omega) (by omega)
      omega
    · obtain rfl : j = i + 1 := by omega
      omega
theorem dn_low {m : Int} {A : List Int} (h : dnB m A = true) (i : Nat) (hi : i < A.length) : (A.length : Int) - 1 - i ≤ A.getD i 0 := by
  have h1 := dn_gap h (A.length - 1) i (by omega) (by omega)
  have h2 := ((dnB_iff m A).1 h (A.length - 1) (by omega)).1
  omega
def pofOk (A B : List Int) : Bool := dnB 16 A && dnB 16 B && decide (A.length = B.length) && decide (sumL A + sumL B + (A.length : Int) ≤ 16)
/-- how many of the legs come down to row j -/
def leg (B : List Int) (j : Nat) : Nat := nb (fun i => decide ((j : Int) ≤ B.getD i 0 + i)) B.length
def pofG (A B : List Int) (j : Nat) : Int := if j < A.length then A.getD j 0 + j + 1 else leg B j
def pofN (A B : List Int) : Nat := if A.length = 0 then 0 else (B.getD 0 0 + 1).toNat
/-- the parts of arms and legs -/
def pof (A B : List Int) : List Int := (List.range (pofN A B)).map fun (j : Nat) => pofG A B j
theorem pof_len (A B : List Int) : (pof A B).length = pofN A B := by simp [pof]
theorem pof_getD (A B : List Int) (j : Nat) : (pof A B).getD j 0 = if j < pofN A B then pofG A B j else 0 := by
  by_cases h : j < pofN A B
  · rw [getD_lt (by rw [pof_len]; exact h), if_pos h]; simp [pof]
  · rw [getD_ge (by rw [pof_len]; omega), if_neg h]
theorem pofOk_out {A B : List Int} (h : pofOk A B = true) : dnB 16 A = true ∧ dnB 16 B = true ∧ A.length = B.length ∧ sumL A + sumL B + (A.length : Int) ≤ 16 := by
  unfold pofOk at h
  simp only [Bool.and_eq_true, decide_eq_true_eq] at h
  exact ⟨h.1.1.1, h.1.1.2, h.1.2, h.2⟩
def pre2 (A B : List Int) : Prop := dnB 16 A = true ∧ dnB 16 B = true ∧ A.length = B.length
theorem pofOk_pre {A B : List Int} (h : pofOk A B = true) : pre2 A B := ⟨(pofOk_out h).1, (pofOk_out h).2.1, (pofOk_out h).2.2.1⟩
theorem leg_anti (B : List Int) {j k : Nat} (h : j ≤ k) : leg B k ≤ leg B j := nb_mono _ fun i _ hi => by
  have := of_decide_eq_true hi
  exact decide_eq_true (by omega)
theorem leg_zero {B : List Int} (hB : dnB 16 B = true) {j : Nat} (h : B.getD 0 0 < j) : leg B j = 0 := by
  have : leg B j = min B.length 0 := nb_to _ fun i hi => ⟨fun hq => by
    have h1 := of_decide_eq_true hq
    have h2 := dn_gap hB i 0 (by omega) hi
    omega, fun hq => by omega⟩
  omega
theorem leg_le (B : List Int) (j : Nat) : leg B j ≤ B.length := nb_le _ _
theorem leg_pos {B : List Int} (h0 : 0 < B.length) {j : Nat} (h : (j : Int) ≤ B.getD 0 0) : 1 ≤ leg B j := by
  have e : nb (fun i => decide ((j : Int) ≤ B.getD i 0 + i)) 1 = 1 := by
    have e0 : (fun (i : Nat) => decide ((j : Int) ≤ B.getD i 0 + i)) 0 = true := decide_eq_true (by show (j : Int) ≤ B.getD 0 0 + ((0 : Nat) : Int); omega)
    show 0 + (if (fun (i : Nat) => decide ((j : Int) ≤ B.getD i 0 + i)) 0 = true then 1 else 0) = 1
    rw [if_pos e0]
  have : ∀ n, 1 ≤ n → 1 ≤ nb (fun i => decide ((j : Int) ≤ B.getD i 0 + i)) n := by
    intro n hn
    induction n with
    | zero => omega
    | succ n ih =>
      rcases Nat.eq_zero_or_pos n with h1 | h1
      · subst h1; exact Nat.le_of_eq e.symm
      · have := ih h1; simp only [nb]; split <;> omega
  exact this _ h0
theorem pofN_ge {A B : List Int} (h : pre2 A B) : A.length ≤ pofN A B ∧ pofN A B ≤ 16 := by
  obtain ⟨hA, hB, hl⟩ := id h
  unfold pofN
  split
  · omega
  · have h1 := dn_low hB 0 (by omega)
    have h2 := (dnB_iff 16 B).1 hB 0 (by omega)
    omega
theorem pof_pos {A B : List Int} (h : pre2 A B) {j : Nat} (hj : j < pofN A B) : 1 ≤ pofG A B j ∧ pofG A B j ≤ 32 := by
  obtain ⟨hA, hB, hl⟩ := id h
  have hN := pofN_ge h
  unfold pofG
  split
  · rename_i hj2
    have := (dnB_iff 16 A).1 hA j hj2
    omega
  · rename_i hj2
    unfold pofN at hj
    split at hj
    · omega
    · have h1 := leg_pos (B := B) (by omega) (j := j) (by omega)
      have h2 := leg_le B j
      omega
theorem pof_fall {A B : List Int} (h : pre2 A B) {j : Nat} (hj : j + 1 < pofN A B) : pofG A B (j + 1) ≤ pofG A B j := by
  obtain ⟨hA, hB, hl⟩ := id h
  unfold pofG
  by_cases h1 : j + 1 < A.length
  · rw [if_pos h1, if_pos (by omega)]
    have := dn_gap hA (j + 1) j (by omega) h1
    omega
  · rw [if_neg h1]
    by_cases h2 : j < A.length
    · rw [if_pos h2]
      have := (dnB_iff 16 A).1 hA j h2
      have h3 := leg_le B (j + 1)
      omega
    · rw [if_neg h2]
      have := leg_anti B (show j ≤ j + 1 by omega)
      omega
/-- what row i of the diagonal gives to row j -/
def ctr (A B : List Int) (i j : Nat) : Int := (if j = i then 1 + A.getD i 0 else 0) + (if i + 1 ≤ j ∧ (j : Int) ≤ i + B.getD i 0 then 1 else 0)
def fro (A B : List Int) : Nat → Nat → Int
  | 0, _ => 0
  | n + 1, j => fro A B n j + ctr A B n j
/-- the program's diagram, when n rows of the diagonal are done, the arm of the next (t) and k cells of its leg -/
def fmid (A B : List Int) (n : Nat) (t : Bool) (k : Nat) : List Int := (List.range 16).map fun j => fro A B n j + (if t = true ∧ j = n then 1 + A.getD n 0 else 0) + (if n + 1 ≤ j ∧ j < n + 1 + k then 1 else 0)
theorem fmid_len (A B : List Int) (n : Nat) (t : Bool) (k : Nat) : (fmid A B n t k).length = 16 := by simp [fmid]
theorem fmid_get (A B : List Int) (n : Nat) (t : Bool) (k j : Nat) (h : j < (fmid A B n t k).length) : (fmid A B n t k)[j] = fro A B n j + (if t = true ∧ j = n then 1 + A.getD n 0 else 0) + (if n + 1 ≤ j ∧ j < n + 1 + k then 1 else 0) := by simp [fmid]
theorem fmid_zero (A B : List Int) : fmid A B 0 false 0 = List.replicate 16 0 := by
  apply List.ext_getElem
  · rw [fmid_len]; rfl
  · intro j h1 h2
    rw [fmid_get, List.getElem_replicate]
    simp [fro]
    omega
theorem fmid_arm (A B : List Int) (n : Nat) : (fmid A B n false 0).set n (fro A B n n + (1 + A.getD n 0)) = fmid A B n true 0 := by
  apply List.ext_getElem
  · rw [List.length_set, fmid_len, fmid_len]
  · intro j h1 h2
    by_cases hj : n = j
    · subst hj
      rw [List.getElem_set_self, fmid_get, if_pos ⟨rfl, rfl⟩, if_neg (show ¬ (n + 1 ≤ n ∧ n < n + 1 + 0) by omega)]
      omega
    · rw [List.getElem_set_ne hj, fmid_get, fmid_get]
      have : ¬ j = n := fun e => hj e.symm
      simp [this]
theorem fmid_leg (A B : List Int) (n k : Nat) : (fmid A B n true k).set (n + 1 + k) (fro A B n (n + 1 + k) + 1) = fmid A B n true (k + 1) := by
  apply List.ext_getElem
  · rw [List.length_set, fmid_len, fmid_len]
  · intro j h1 h2
    by_cases hj : n + 1 + k = j
    · subst hj
      rw [List.getElem_set_self, fmid_get, if_neg (by omega), if_pos (by omega)]
      omega
    · rw [List.getElem_set_ne hj, fmid_get, fmid_get]
      congr 1
      by_cases h3 : n + 1 ≤ j ∧ j < n + 1 + k
      · rw [if_pos h3, if_pos (by omega)]
      · rw [if_neg h3, if_neg (by omega)]
theorem fmid_next (A B : List Int) (n k : Nat) (hk : (k : Int) = B.getD n 0) : fmid A B n true k = fmid A B (n + 1) false 0 := by
  apply List.ext_getElem
  · rw [fmid_len, fmid_len]
  · intro j h1 h2
    rw [fmid_get, fmid_get]
    simp only [fro, ctr, true_and, Bool.false_eq_true, false_and, if_false]
    rw [if_neg (by omega : ¬ (n + 1 + 1 ≤ j ∧ j < n + 1 + 1 + 0))]
    (repeat' split) <;> omega
theorem fro_eq (A B : List Int) (j : Nat) : ∀ n, fro A B n j = (if j < n then 1 + A.getD j 0 else 0) + (nb (fun i => decide (i + 1 ≤ j) && decide ((j : Int) ≤ i + B.getD i 0)) n : Nat) := by
  intro n
  induction n with
  | zero => rfl
  | succ n ih =>
    rw [fro, ih, ctr, nb]
    have e : (if n + 1 ≤ j ∧ (j : Int) ≤ n + B.getD n 0 then (1 : Int) else 0) = (((if (decide (n + 1 ≤ j) && decide ((j : Int) ≤ n + B.getD n 0)) = true then 1 else 0 : Nat)) : Int) := by
      by_cases hc : n + 1 ≤ j ∧ (j : Int) ≤ n + B.getD n 0
      · rw [if_pos hc, if_pos (by rw [decide_eq_true hc.1, decide_eq_true hc.2]; rfl)]; rfl
      · rw [if_neg hc, if_neg (by intro hq; rw [Bool.and_eq_true, decide_eq_true_eq, decide_eq_true_eq] at hq; exact hc hq)]; rfl
    rw [e]
    by_cases h1 : j = n
    · subst h1
      rw [if_pos rfl, if_neg (show ¬ j < j by omega), if_pos (show j < j + 1 by omega)]
      omega
    · rw [if_neg h1]
      by_cases h2 : j < n
      · rw [if_pos h2, if_pos (show j < n + 1 by omega)]; omega
      · rw [if_neg h2, if_neg (show ¬ j < n + 1 by omega)]; omega
theorem fro_bd {A B : List Int} (hA : dnB 16 A = true) {n j : Nat} (hn : n ≤ A.length) (hn16 : n ≤ 16) : 0 ≤ fro A B n j ∧ fro A B n j ≤ 40 := by
  rw [fro_eq]
  have := nb_le (fun i => decide (i + 1 ≤ j) && decide ((j : Int) ≤ i + B.getD i 0)) n
  split
  · rename_i h
    have := (dnB_iff 16 A).1 hA j (by omega)
    omega
  · omega
theorem fro_end {A B : List Int} (h : pre2 A B) (j : Nat) : fro A B A.length j = if j < pofN A B then pofG A B j else 0 := by
  obtain ⟨hA, hB, hl⟩ := id h
  have hN := pofN_ge h
  rw [fro_eq]
  by_cases h1 : j < A.length
  · rw [if_pos h1, if_pos (by omega), pofG, if_pos h1]
    have : nb (fun i => decide (i + 1 ≤ j) && decide ((j : Int) ≤ i + B.getD i 0)) A.length = min A.length j := nb_to _ fun i hi => by
      have := dn_low hB i (by omega)
      rw [Bool.and_eq_true, decide_eq_true_eq, decide_eq_true_eq]
      omega
    rw [this]
    omega
  · rw [if_neg h1]
    have e : nb (fun i => decide (i + 1 ≤ j) && decide ((j : Int) ≤ i + B.getD i 0)) A.length = leg B j := by
      unfold leg
      rw [← hl]
      have : ∀ n, n ≤ A.length → nb (fun i => decide (i + 1 ≤ j) && decide ((j : Int) ≤ i + B.getD i 0)) n = nb (fun i => decide ((j : Int) ≤ B.getD i 0 + i)) n := by
        intro n
        induction n with
        | zero => intro _; rfl
        | succ n ih =>
          intro hn
          rw [nb, nb, ih (by omega)]
          congr 1
          rw [decide_eq_true (by omega : n + 1 ≤ j), Bool.true_and, Int.add_comm]
      exact this _ (Nat.le_refl _)
    rw [e]
    by_cases h2 : j < pofN A B
    · rw [if_pos h2, pofG, if_neg h1]; omega
    · rw [if_neg h2]
      unfold pofN at h2
      split at h2
      · rename_i h0
        unfold leg
        rw [← hl, h0]
        rfl
      · have h5 := (dnB_iff 16 B).1 hB 0 (by omega)
        rw [leg_zero hB (by omega)]; omega
theorem fmid_end {A B : List Int} (h : pre2 A B) : fmid A B A.length false 0 = pad (pof A B) := by
  have hN := pofN_ge h
  have hl : (pof A B).length ≤ 16 := by rw [pof_len]; exact hN.2
  apply List.ext_getElem
  · rw [fmid_len, pad_len hl]
  · intro j h1 h2
    rw [fmid_get]
    have e := pad_getD hl j
    rw [getD_lt h2, pof_getD] at e
    rw [e, fro_end h]
    simp
    omega
/-- the sum of the program's diagram -/
theorem sumTo_ctr (A B : List Int) (i : Nat) (hi : i < 16) (hA : 0 ≤ B.getD i 0) (hB : i + B.getD i 0 ≤ 15) : ∀ n, (n : Nat) ≤ 16 → sumTo ((List.range 16).map fun j => ctr A B i j) n = (if i < n then 1 + A.getD i 0 else 0) + (if (n : Int) ≤ i + 1 then 0 else if (n : Int) ≤ i + 1 + B.getD i 0 then (n : Int) - (i + 1) else B.getD i 0) := by
  intro n
  induction n with
  | zero => intro _; simp [sumTo]; omega
  | succ n ih =>
    intro hn
    have e : ((List.range 16).map fun j => ctr A B i j).getD n 0 = ctr A B i n := by rw [getD_lt (by simp; omega)]; simp
    rw [sumTo, ih (by omega), e, ctr]
    (repeat' split) <;> omega
theorem sumTo_fro (A B : List Int) (m : Nat) : ∀ d, sumTo ((List.range 16).map fun j => fro A B (d + 1) j) m = sumTo ((List.range 16).map fun j => fro A B d j) m + sumTo ((List.range 16).map fun j => ctr A B d j) m := by
  intro d
  induction m with
  | zero => rfl
  | succ m ih =>
    rw [sumTo, sumTo, sumTo, ih]
    have e : ∀ (f : Nat → Int), ((List.range 16).map f).getD m 0 = if m < 16 then f m else 0 := fun f => by
      by_cases h : m < 16
      · rw [getD_lt (by simp; exact h), if_pos h]; simp
      · rw [getD_ge (by simp; omega), if_neg h]
    rw [e, e, e]
    split
    · rw [fro]; omega
    · omega
theorem pof_sum {A B : List Int} (h : pre2 A B) : sumL (pof A B) = sumL A + sumL B + A.length := by
  obtain ⟨hA, hB, hl⟩ := id h
  have hN := pofN_ge h
  have key : ∀ d, d ≤ A.length → sumTo ((List.range 16).map fun j => fro A B d j) 16 = sumTo A d + sumTo B d + d := by
    intro d
    induction d with
    | zero =>
      intro _
      have : ∀ n, sumTo ((List.range 16).map fun j => fro A B 0 j) n = 0 := by
        intro n
        induction n with
        | zero => rfl
        | succ n ih =>
          rw [sumTo, ih]
          rcases Nat.lt_or_ge n 16 with h | h
          · rw [getD_lt (by simp; exact h)]; simp [fro]
          · rw [getD_ge (by simp; omega)]; rfl
      rw [this]; rfl
    | succ d ih =>
      intro hd
      have h1 := (dnB_iff 16 B).1 hB d (by omega)
      have h2 := dn_gap hB d 0 (by omega) (by omega)
      have h3 := (dnB_iff 16 B).1 hB 0 (by omega)
      rw [sumTo_fro, ih (by omega), sumTo_ctr A B d (by omega) h1.1 (by omega) 16 (Nat.le_refl _), sumTo, sumTo]
      (repeat' split) <;> omega
  have e := key A.length (Nat.le_refl _)
  rw [sumTo_all A _ (Nat.le_refl _), sumTo_all B _ (by omega)] at e
  have e2 : ((List.range 16).map fun j => fro A B A.length j) = pad (pof A B) := by
    rw [← fmid_end h]
    unfold fmid
    apply List.map_congr_left
    intro j _
    simp
    omega
  rw [e2] at e
  have hl2 : (pof A B).length ≤ 16 := by rw [pof_len]; exact hN.2
  have e3 : sumTo (pad (pof A B)) 16 = sumTo (pof A B) 16 := by
    have : ∀ n, sumTo (pad (pof A B)) n = sumTo (pof A B) n := by
      intro n
      induction n with
      | zero => rfl
      | succ n ih => rw [sumTo, sumTo, ih, pad_getD hl2]
    exact this 16
  rw [e3, sumTo_all _ 16 hl2] at e
  exact e
theorem valid_pof {A B : List Int} (h0 : pofOk A B = true) : valid (pof A B) = true := by
  have h := pofOk_pre h0
  have hN := pofN_ge h
  have hs := pof_sum h
  have ho := (pofOk_out h0).2.2.2
  apply valid_of_preS _ (by omega)
  have hge : ∀ x ∈ pof A B, 0 ≤ x := fun x hx => by
    obtain ⟨k, hk, rfl⟩ := List.getElem_of_mem hx
    rw [← getD_lt hk, pof_getD]
    split
    · rename_i h1; have := pof_pos h h1; omega
    · omega
  intro j hj _
  have hj2 : j < pofN A B := by rw [pof_len] at hj; exact hj
  have hb := (elem_le_sum hge hj).1
  have e : (pof A B)[j] = pofG A B j := by rw [← getD_lt hj, pof_getD, if_pos hj2]
  have hp := pof_pos h hj2
  refine ⟨by omega, by omega, fun hj0 => ?_⟩
  have e2 : (pof A B)[j - 1]'(by omega) = pofG A B (j - 1) := by rw [← getD_lt (by omega), pof_getD, if_pos (by omega)]
  have := pof_fall h (j := j - 1) (by omega)
  rw [show j - 1 + 1 = j by omega] at this
  omega
def pofF (A B : List Int) : List Int := if pofOk A B then pof A B else []
theorem pofF_yes {A B : List Int} (h : pofOk A B = true) : pofF A B = pof A B := by simp [pofF, h]
theorem pofF_no {A B : List Int} (h : pofOk A B = false) : pofF A B = [] := by simp [pofF, h]
theorem pofF_len (A B : List Int) : (pofF A B).length ≤ 16 := by
  unfold pofF
  split
  · rename_i h; rw [pof_len]; exact (pofN_ge (pofOk_pre h)).2
  · simp
theorem conj_getD' {L : List Int} (h : valid L = true) (j : Nat) : (conj L).getD j 0 = cnt ((j : Int) + 1) L := by
  rcases Nat.lt_or_ge j (conj L).length with h1 | h1
  · rw [getD_lt h1, conj_get]
  · rw [getD_ge h1]
    rw [conj_len] at h1
    exact (cnt_none fun x hx => by have := head_ge h x hx; omega).symm
theorem dur_lt {L : List Int} {i : Nat} (h : i < durS L) : (i : Int) < L.getD i 0 := (durS_spec L).2.1 i h
theorem froA_dn {L : List Int} (hv : valid L = true) : dnB 16 (froA L) = true := by
  rw [dnB_iff]
  intro i hi
  unfold froA at hi ⊢
  rw [armsTo_len] at hi
  rw [armsTo_getD _ _ _ hi]
  have h1 := dur_lt hi
  have h2 := getD_nn hv i
  refine ⟨by omega, by omega, fun h0 => ?_⟩
  rw [armsTo_getD _ _ _ (by omega)]
  have := getD_fall hv i h0
  omega
theorem froA_conj {L : List Int} (hv : valid L = true) : froA (conj L) = froB L := by unfold froA froB; rw [durS_conj hv]
theorem froB_conj {L : List Int} (hv : valid L = true) : froB (conj L) = froA L := by unfold froA froB; rw [durS_conj hv, conj_conj hv]
theorem fro_pre {L : List Int} (hv : valid L = true) : pre2 (froA L) (froB L) :=
  ⟨froA_dn hv, by rw [← froA_conj hv]; exact froA_dn (valid_conj hv), by unfold froA froB; rw [armsTo_len, armsTo_len]⟩
theorem pof_fro {L : List Int} (hv : valid L = true) : pof (froA L) (froB L) = L := by
  have hA : (froA L).length = durS L := armsTo_len _ _
  have hB : (froB L).length = durS L := armsTo_len _ _
  have hds := durS_spec L
  have hlen : pofN (froA L) (froB L) = L.length := by
    unfold pofN
    rw [hA]
    have h0 := durS_pos hv
    split
    · omega
    · unfold froB
      rw [armsTo_getD _ _ _ (by omega)]
      have hc := head_conj hv
      have e : (conj L).getD 0 0 = (conj L).headD 0 := by cases conj L <;> rfl
      rw [e]
      have := headD_bd (valid_conj hv)
      omega
  apply List.ext_getElem
  · rw [pof_len, hlen]
  · intro j h1 h2
    rw [← getD_lt h1, ← getD_lt h2, pof_getD, if_pos (by omega), pofG, hA]
    by_cases hj : j < durS L
    · rw [if_pos hj]
      unfold froA
      rw [armsTo_getD _ _ _ hj]
      omega
    · rw [if_neg hj]
      have hle : L.getD j 0 ≤ durS L := by
        have h3 : L.getD j 0 ≤ L.getD (durS L) 0 := by
          rw [getD_lt h2, getD_lt (by omega)]
          exact falls_all hv j (durS L) h2 (by omega)
        have := hds.2.2
        omega
      have hnn := getD_nn hv j
      have : leg (froB L) j = min (durS L) (L.getD j 0).toNat := by
        unfold leg
        rw [hB]
        refine nb_to _ fun i hi => ?_
        have e : (froB L).getD i 0 = (conj L).getD i 0 - ((i : Int) + 1) := by unfold froB; exact armsTo_getD _ _ _ hi
        rw [decide_eq_true_eq, e, conj_getD' hv]
        have := cnt_ge_iff hv h2 ((i : Int) + 1)
        rw [getD_lt h2] at hnn ⊢
        omega
      rw [this]
      omega
theorem pofOk_fro {L : List Int} (hv : valid L = true) : pofOk (froA L) (froB L) = true := by
  have hp := fro_pre hv
  have hs := pof_sum hp
  rw [pof_fro hv] at hs
  have := (valid_bd hv).2.1
  unfold pofOk
  rw [hp.1, hp.2.1, decide_eq_true hp.2.2, decide_eq_true (by omega)]
  rfl
end NP
end Go.Proofs.Ytbbbfaollcklkaa
