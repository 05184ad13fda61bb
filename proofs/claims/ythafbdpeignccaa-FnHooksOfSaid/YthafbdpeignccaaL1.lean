/-
  Walks: the laws' own helpers on lists of numbers: copied (toIntS), compared (eqIntS, equalInts), marked, held.
-/
import Derived.Test.YthafbdpeignccaaW1
namespace Go.Proofs.Ythafbdpeignccaa
open Go.RowKit NP
set_option maxRecDepth 8000
set_option linter.unusedVariables false
theorem T_int : (Try.prog.info? 3).map (fun i => (i.zero, i.size, i.bytes)) = some (some (.int .i64 0), 1, 8) := by kernel_rfl
theorem eqIntS_any (a b : Option Addr) (ca cb Ba Bb : Nat) (L M : List Int) (w : World) (h : Rd w Ba a (ints L)) (hm : Rd w Bb b (ints M)) (hl : L.length ≤ 4611686018427387904) (hl2 : M.length ≤ 4611686018427387904) :
    Calls Try.prog 16 #[.slice a L.length ca, .slice b M.length cb] w fun e w' => e = .returned (.bool (decide (L = M))) ∧ ∃ n, w' = w.drewN n := by
  by_cases hlen : L.length = M.length
  · have hne : ((L.length : Int) != (M.length : Int)) = false := by simp [hlen]
    have HL := Lib.hid hlen
    clear hlen
    go_enter Try.func16, Try.ntmps16
    go_wp2
    go_loopw [5] (fun i wr => ∃ k : Nat, k ≤ L.length ∧ i = .int .i64 k ∧ Dr w wr ∧ Hid (L.take k = M.take k)) (fun i _ => L.length - (intOf i).toNat)
    case atStart => exact ⟨0, Nat.zero_le _, rfl, Dr.refl _, Lib.hid rfl⟩
    case round =>
      obtain ⟨k, hk, rfl, hdr, HT⟩ := hrel
      by_cases hlt : k < L.length
      · have hlt2 : k < M.length := by have := HL.out; omega
        obtain ⟨b1, o1, rfl, -, hc1⟩ := (h.dr hdr).at_ hlt
        obtain ⟨b2, o2, rfl, -, hc2⟩ := (hm.dr hdr).at_ hlt2
        by_cases hx : L[k] = M[k]
        · have hx' : (L[k] != M[k]) = false := by simp [hx]
          have HX := Lib.hid hx
          clear hx
          go_wp2_with fail
          go_quiet (fail)
          go_wp2
          go_roundw
          case rel => exact ⟨k + 1, by omega, by go_num, hdr.drewN _, Lib.hid (by rw [List.take_succ_eq_append_getElem hlt, List.take_succ_eq_append_getElem hlt2, HT.out, HX.out])⟩
          case measure => simp [intOf]; omega
        · have hx' : (L[k] != M[k]) = true := by simp [hx]
          have HX := Lib.hid hx
          clear hx
          go_wp2_with fail
          go_quiet (fail)
          go_wp2
          go_ret
          exact ⟨ret_bool (by simp; intro e; apply HX.out; simp only [e]), hdr.drewN _⟩
      · obtain rfl : k = L.length := by omega
        go_wp2
        go_ret
        exact ⟨ret_bool (by simp; have := HT.out; rw [List.take_of_length_le (Nat.le_refl _), List.take_of_length_le (by have := HL.out; omega)] at this; exact this), hdr⟩
  · have hne : ((L.length : Int) != (M.length : Int)) = true := by simp; omega
    have HL := Lib.hid hlen
    clear hlen
    go_enter Try.func16, Try.ntmps16
    go_wp2
    go_ret
    exact ⟨ret_bool (by simp; intro e; exact HL.out (by rw [e])), Dr.refl _⟩
theorem equalInts_any (a b : Option Addr) (ca cb Ba Bb : Nat) (L M : List Int) (w : World) (h : Rd w Ba a (ints L)) (hm : Rd w Bb b (ints M)) (hl : L.length ≤ 4611686018427387904) (hl2 : M.length ≤ 4611686018427387904) :
    Calls Try.prog 20 #[.slice a L.length ca, .slice b M.length cb] w fun e w' => e = .returned (.bool (decide (L = M))) ∧ ∃ n, w' = w.drewN n := by
  by_cases hlen : L.length = M.length
  · have hne : ((L.length : Int) != (M.length : Int)) = false := by simp [hlen]
    have HL := Lib.hid hlen
    clear hlen
    go_enter Try.func20, Try.ntmps20
    go_wp2
    go_loopw [5] (fun i wr => ∃ k : Nat, k ≤ L.length ∧ i = .int .i64 k ∧ Dr w wr ∧ Hid (L.take k = M.take k)) (fun i _ => L.length - (intOf i).toNat)
    case atStart => exact ⟨0, Nat.zero_le _, rfl, Dr.refl _, Lib.hid rfl⟩
    case round =>
      obtain ⟨k, hk, rfl, hdr, HT⟩ := hrel
      by_cases hlt : k < L.length
      · have hlt2 : k < M.length := by have := HL.out; omega
        obtain ⟨b1, o1, rfl, -, hc1⟩ := (h.dr hdr).at_ hlt
        obtain ⟨b2, o2, rfl, -, hc2⟩ := (hm.dr hdr).at_ hlt2
        by_cases hx : L[k] = M[k]
        · have hx' : (L[k] != M[k]) = false := by simp [hx]
          have HX := Lib.hid hx
          clear hx
          go_wp2_with fail
          go_quiet (fail)
          go_wp2
          go_roundw
          case rel => exact ⟨k + 1, by omega, by go_num, hdr.drewN _, Lib.hid (by rw [List.take_succ_eq_append_getElem hlt, List.take_succ_eq_append_getElem hlt2, HT.out, HX.out])⟩
          case measure => simp [intOf]; omega
        · have hx' : (L[k] != M[k]) = true := by simp [hx]
          have HX := Lib.hid hx
          clear hx
          go_wp2_with fail
          go_quiet (fail)
          go_wp2
          go_ret
          exact ⟨ret_bool (by simp; intro e; apply HX.out; simp only [e]), hdr.drewN _⟩
      · obtain rfl : k = L.length := by omega
        go_wp2
        go_ret
        exact ⟨ret_bool (by simp; have := HT.out; rw [List.take_of_length_le (Nat.le_refl _), List.take_of_length_le (by have := HL.out; omega)] at this; exact this), hdr⟩
  · have hne : ((L.length : Int) != (M.length : Int)) = true := by simp; omega
    have HL := Lib.hid hlen
    clear hlen
    go_enter Try.func20, Try.ntmps20
    go_wp2
    go_ret
    exact ⟨ret_bool (by simp; intro e; exact HL.out (by rw [e])), Dr.refl _⟩

theorem fill_set {L : List Int} {k : Nat} (hk : k < L.length) : (ints (L.take k) ++ List.replicate (L.length - k) (Value.int .i64 0)).set k (.int .i64 L[k]) = ints (L.take (k + 1)) ++ List.replicate (L.length - (k + 1)) (Value.int .i64 0) := by
  have e1 : (ints (L.take k)).length = k := by simp; omega
  rw [show L.length - k = (L.length - (k + 1)) + 1 by omega, List.replicate_succ, List.set_append_right _ _ (by omega), e1, Nat.sub_self, List.set_cons_zero, List.take_succ_eq_append_getElem hk]
  simp only [ints, List.map_append, List.map_cons, List.map_nil, List.append_assoc, List.cons_append, List.nil_append]

theorem T_int' : ∃ i, Try.prog.info? 3 = some i ∧ i.zero = some (.int .i64 0) ∧ i.size = 1 ∧ i.bytes = 8 := info_parts T_int

theorem toIntS_any (a : Option Addr) (c B : Nat) (L : List Int) (w : World) (h : Rd w B a (ints L)) (hB : B ≤ w.heap.size) (hl : L.length ≤ 1048576) :
    Calls Try.prog 14 #[.slice a L.length c] w fun e w' => ∃ a', e = .returned (.slice a' L.length L.length) ∧ Own w' w.heap.size w'.heap.size 3 (.slice a' L.length L.length) (ints L) ∧ Below w.heap.size w w' := by
  obtain ⟨i0, hi, hz0, hz1, hz2⟩ := T_int'
  go_enter Try.func14, Try.ntmps14
  go_wp2_with (refine wpList_make_full _ rfl _ _ 22 rfl w.heap.size 3 i0 (.int .i64 0) 1 Try.underlying22 hi hz0 hz1 .i64 .i64 _ _ L.length rfl rfl rfl rfl (by rw [hz2]; omega) (by unfold maxLen; omega) (by simp) ?_; intro w1 hown1 hg1; have hb1 : Below w.heap.size w w1 := (Below.refl _ _).grown hg1 (Nat.le_refl _) (by simp); have ho1 : Own w1 w.heap.size w1.heap.size 3 (.slice (some ⟨w.heap.size, 0, none⟩) L.length L.length) (List.replicate L.length (Value.int .i64 0)) := ⟨by simpa [toList_madeCells_one, Value.cells] using hown1, fun g hg => (hown1.lt g hg).2, Nat.le_refl _⟩; clear hown1 hg1)
  go_loopw [4] (fun i wr => ∃ k : Nat, k ≤ L.length ∧ i = .int .i64 k ∧ Below w.heap.size w wr ∧ Own wr w.heap.size wr.heap.size 3 (.slice (some ⟨w.heap.size, 0, none⟩) L.length L.length) (ints (L.take k) ++ List.replicate (L.length - k) (Value.int .i64 0))) (fun i _ => L.length - (intOf i).toNat)
  case atStart => exact ⟨0, Nat.zero_le _, rfl, hb1, by simpa using ho1⟩
  case round =>
    obtain ⟨k, hk, rfl, hbr, hor⟩ := hrel
    clear hb1 ho1
    by_cases hlt : k < L.length
    · obtain ⟨b1, o1, rfl, -, hc1⟩ := ((h.more hB).below hbr).at_ hlt
      obtain ⟨g, u, e, hlo, hhi, hc2, hf2⟩ := hor.spot (k := k) (by simp; omega)
      obtain rfl : w.heap.size = g := by injection e with e; injection e
      clear e
      have HF := Lib.hid (fill_set hlt)
      have HO := Lib.hid hor
      clear hor
      go_wp2
      go_roundw
      case rel =>
        refine ⟨k + 1, by omega, by go_num, hbr.setCell (by simp) _, ?_⟩
        have e := HO.out.set k (.int .i64 L[k])
        rw [HF.out] at e
        exact ⟨e.row, fun g hg => by simpa [World.setCell] using e.lt g hg, Nat.le_refl _⟩
      case measure => simp [intOf]; omega
    · obtain rfl : k = L.length := by omega
      go_wp2
      go_ret
      exact ⟨_, rfl, by simpa using hor, hbr⟩

/-- the marks from m on -/
def marks (m : Int) (n : Nat) : List Int := (List.range n).map fun (j : Nat) => m + (j : Int)
theorem marks_len (m : Int) (n : Nat) : (marks m n).length = n := by simp [marks]
theorem marks_get (m : Int) (n j : Nat) (h : j < (marks m n).length) : (marks m n)[j] = m + (j : Int) := by simp [marks]
theorem mark_set {L : List Int} {m : Int} {k : Nat} (hk : k < L.length) : (ints (marks m k ++ L.drop k)).set k (.int .i64 (m + (k : Int))) = ints (marks m (k + 1) ++ L.drop (k + 1)) := by
  have e1 : (marks m k).length = k := marks_len m k
  rw [List.drop_eq_getElem_cons hk, ints, List.map_append, List.map_cons, List.set_append_right _ _ (by simp [e1]), List.length_map, e1, Nat.sub_self, List.set_cons_zero]
  simp [ints, marks, List.range_succ]

theorem markIntS_any (a : Option Addr) (c lo hi : Nat) (m : Int) (L : List Int) (w : World) (h : Own w lo hi 3 (.slice a L.length c) (ints L)) (hm : 0 ≤ m) (hm2 : m ≤ 1099511627776) (hl : L.length ≤ 1099511627776) :
    Calls Try.prog 17 #[.slice a L.length c, .int .i64 m] w fun e w' => e = .returned (.int .i64 (m + (L.length : Int))) ∧ Own w' lo hi 3 (.slice a L.length c) (ints (marks m L.length)) ∧ w.grownBy w' (Value.slice a L.length c).ownBlock := by
  go_enter Try.func17, Try.ntmps17
  go_wp2
  go_loopw [1, 5] (fun kk i wr => ∃ k : Nat, k ≤ L.length ∧ i = .int .i64 k ∧ kk = .int .i64 (m + (k : Int)) ∧ w.grownBy wr (Value.slice a L.length c).ownBlock ∧ Own wr lo hi 3 (.slice a L.length c) (ints (marks m k ++ L.drop k))) (fun _ i _ => L.length - (intOf i).toNat)
  case atStart => exact ⟨0, Nat.zero_le _, rfl, by simp, World.grownBy.refl _ _, by simpa [marks] using h⟩
  case round =>
    obtain ⟨k, hk, rfl, rfl, hbr, hor⟩ := hrel
    clear h
    by_cases hlt : k < L.length
    · obtain ⟨g, u, rfl, hlo, hhi, hc2, hf2⟩ := hor.spot (k := k) (by simp [marks_len]; omega)
      have HF := Lib.hid (mark_set (m := m) hlt)
      have HO := Lib.hid hor
      have HR := Lib.hid hbr
      clear hor hbr
      go_wp2
      go_roundw
      case rel =>
        have e := HO.out.set k (.int .i64 (m + (k : Int)))
        have hbr := HR.out
        rw [HF.out] at e
        refine ⟨k + 1, by omega, by go_num, by go_num, ?_, e⟩
        exact ⟨hbr.os, hbr.tape, hbr.output, by simpa [World.setCell] using hbr.size, fun q hq hne => (Below.heap_setCell wr _ _ q (by rintro rfl; exact hne (by simp [Value.ownBlock]))).trans (hbr.block q hq hne)⟩
      case measure => simp [intOf]; omega
    · obtain rfl : k = L.length := by omega
      go_wp2
      go_ret
      exact ⟨rfl, by simpa using hor, hbr⟩

theorem heldIntS_any (a : Option Addr) (c B n : Nat) (m : Int) (w : World) (h : Rd w B a (ints (marks m n))) (hm : 0 ≤ m) (hm2 : m ≤ 1099511627776) (hl : n ≤ 1099511627776) :
    Calls Try.prog 18 #[.slice a n c, .int .i64 m] w fun e w' => e = .returned (.int .i64 (m + (n : Int))) ∧ w = w' := by
  have hn : (marks m n).length = n := marks_len m n
  have HN := Lib.hid hn
  clear hn
  go_enter Try.func18, Try.ntmps18
  go_wp2
  go_loop [1, 5] (fun kk i => ∃ k : Nat, k ≤ n ∧ i = .int .i64 k ∧ kk = .int .i64 (m + (k : Int))) (fun _ i => n - (intOf i).toNat)
  case atStart => exact ⟨0, Nat.zero_le _, rfl, by simp⟩
  case round =>
    obtain ⟨k, hk, rfl, rfl⟩ := hrel
    by_cases hlt : k < n
    · obtain ⟨b1, o1, rfl, -, hc1⟩ := h.at_ (k := k) (by rw [HN.out]; exact hlt)
      rw [marks_get] at hc1
      go_wp2
      go_round
      case rel => exact ⟨k + 1, by omega, by go_num, by go_num⟩
      case measure => simp [intOf]; omega
    · obtain rfl : k = n := by omega
      go_wp2
      go_ret
      exact ⟨rfl, rfl⟩

theorem eqIntS_same (a b : Option Addr) (ca cb Ba Bb : Nat) (L : List Int) (w : World) (h : Rd w Ba a (ints L)) (hm : Rd w Bb b (ints L)) (hl : L.length ≤ 4611686018427387904) :
    Calls Try.prog 16 #[.slice a L.length ca, .slice b L.length cb] w fun e w' => e = .returned (.bool true) ∧ Dr w w' :=
  (eqIntS_any a b ca cb Ba Bb L L w h hm hl hl).mono fun e w' ⟨h1, h2⟩ => ⟨by rw [h1]; simp, h2⟩
theorem equalInts_same (a b : Option Addr) (ca cb Ba Bb : Nat) (L : List Int) (w : World) (h : Rd w Ba a (ints L)) (hm : Rd w Bb b (ints L)) (hl : L.length ≤ 4611686018427387904) :
    Calls Try.prog 20 #[.slice a L.length ca, .slice b L.length cb] w fun e w' => e = .returned (.bool true) ∧ Dr w w' :=
  (equalInts_any a b ca cb Ba Bb L L w h hm hl hl).mono fun e w' ⟨h1, h2⟩ => ⟨by rw [h1]; simp, h2⟩

theorem total_any (a : Option Addr) (c B : Nat) (L : List Int) (w : World) (h : Rd w B a (ints L)) (hs : sumFits L) (hl : L.length ≤ 4611686018427387904) :
    Calls Try.prog 22 #[.slice a L.length c] w fun e w' => e = .returned (.int .i64 (sumL L)) ∧ w = w' := by
  go_enter Try.func22, Try.ntmps22
  go_wp2
  go_loop [3, 4] (fun s i => ∃ k : Nat, k ≤ L.length ∧ i = .int .i64 k ∧ s = .int .i64 (sumL (L.take k))) (fun _ i => L.length - (intOf i).toNat)
  case atStart => exact ⟨0, Nat.zero_le _, rfl, rfl⟩
  case round =>
    obtain ⟨k, hk, rfl, rfl⟩ := hrel
    by_cases hlt : k < L.length
    · obtain ⟨b, o, rfl, _, hc⟩ := h.at_ hlt
      have h1 := hs k hk
      have h2 := hs.next hlt
      have H3 := Lib.hid (sumL_take_succ L k hlt)
      go_wp2
      go_round
      case rel => exact ⟨k + 1, by omega, by go_num, by rw [H3.out]⟩
      case measure => simp [intOf]; omega
    · go_wp2
      go_ret
      exact ⟨ret_i64 (by rw [List.take_of_length_le (by omega)]), rfl⟩
end Go.Proofs.Ythafbdpeignccaa
