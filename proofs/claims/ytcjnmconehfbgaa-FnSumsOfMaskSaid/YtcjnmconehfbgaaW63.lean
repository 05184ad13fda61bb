/-
  Walks: the program's summands: masksOf, endsAt.
-/
import Derived.Test.YtcjnmconehfbgaaL1
import Derived.Test.YtcjnmconehfbgaaM33
import Derived.Test.YtcjnmconehfbgaaArr2
import Derived.IntWalk
namespace Go.Proofs.Ytcjnmconehfbgaa
open Go.RowKit NP
set_option maxRecDepth 8000
set_option linter.unusedVariables false
theorem tmod_nat' (q N : Nat) : (q : Int).tmod (N : Int) = ((q % N : Nat) : Int) := by rw [Int.tmod_eq_emod_of_nonneg (by omega)]; simp
theorem T_sms : (Try.prog.info? 76).map (·.size) = some 2 := by kernel_rfl
theorem pow_bd {k : Nat} (h : k ≤ 40) : (1 : Int) ≤ 2 ^ k ∧ (2 : Int) ^ k ≤ 1099511627776 := by
  have h1 : (2 : Nat) ^ k ≤ 2 ^ 40 := Nat.pow_le_pow_right (by omega) h
  have h2 : 0 < (2 : Nat) ^ k := Nat.two_pow_pos k
  have e : ((2 ^ k : Nat) : Int) = (2 : Int) ^ k := by simp
  omega
theorem wrap_pow {k : Nat} (h : k ≤ 40) : wrap64 ((2 : Int) ^ k) = 2 ^ k := by
  have := pow_bd h
  exact IntWalk.wrap64_in _ (by omega)
theorem masksOf_any (n : Nat) (w : World) (hn : n ≤ 16) :
    Calls Try.prog 68 #[.int .i64 n] w fun e w' => e = .returned (.int .i64 ((2 ^ (n - 1) : Nat) : Int)) ∧ w = w' := by
  by_cases h : n = 0
  · subst h
    go_enter Try.func68, Try.ntmps68
    go_wp2
    go_ret
    exact ⟨rfl, rfl⟩
  · by_cases h1 : n = 1
    · subst h1
      go_enter Try.func68, Try.ntmps68
      go_wp2
      go_ret
      exact ⟨rfl, rfl⟩
    · have h2 : (1 : Int) < n := by omega
      have HW := Lib.hid (wrap_pow (show n - 1 ≤ 40 by omega))
      go_enter Try.func68, Try.ntmps68
      go_wp2
      go_ret
      exact ⟨ret_i64 HW.out, rfl⟩
theorem endsAt_last (n m : Nat) (w : World) :
    Calls Try.prog 89 #[.agg #[.int .i64 n, .int .i64 m], .int .i64 n] w fun e w' => e = .returned (.bool true) ∧ Below w.heap.size w w' := by
  go_enter Try.func89, Try.ntmps89
  go_wp2
  go_ret
  exact ⟨rfl, (Below.refl _ _).alloc (Nat.le_refl _) _⟩
theorem bit_as (m k : Nat) : (((m : Int) / 2 ^ k).tmod 2 == 1) = decide (m / 2 ^ k % 2 = 1) := by
  have e : ((m : Int) / 2 ^ k) = ((m / 2 ^ k : Nat) : Int) := by simp
  rw [e, show (2 : Int) = ((2 : Nat) : Int) from rfl, tmod_nat', Bool.eq_iff_iff]
  simp; omega
theorem endsAt_mid (n m k : Nat) (w : World) (hk0 : 1 ≤ k) (hk : k < n) (hn : n ≤ 16) :
    Calls Try.prog 89 #[.agg #[.int .i64 n, .int .i64 m], .int .i64 k] w fun e w' => e = .returned (.bool (decide (m / 2 ^ (k - 1) % 2 = 1))) ∧ Below w.heap.size w w' := by
  obtain ⟨j, rfl⟩ : ∃ j, k = j + 1 := ⟨k - 1, by omega⟩
  have e1 : ((j : Int) + 1 == (n : Int)) = false := beq_eq_false_iff_ne.2 (by omega)
  have HB := Lib.hid (bit_as m j)
  rw [Nat.add_sub_cancel]
  go_enter Try.func89, Try.ntmps89
  go_wp2
  go_ret
  exact ⟨ret_bool HB.out, (Below.refl _ _).alloc (Nat.le_refl _) _⟩
/-- the summands written ahead of place k, and what runs there -/
def SmAt (n m k : Nat) (out : List Int) (run : Int) : Prop := (k ≤ n → ofB (bitsN m (k - 1)) = out ++ [run]) ∧ (k = n + 1 → out = smk n m)
theorem SmAt.first (n m : Nat) : SmAt n m 1 [] 1 := ⟨fun _ => rfl, fun h => by obtain rfl : n = 0 := by omega
                                                                               rfl⟩
theorem SmAt.last {n m : Nat} {out : List Int} {run : Int} (h : SmAt n m n out run) (h1 : 1 ≤ n) : SmAt n m (n + 1) (out ++ [run]) 1 :=
  ⟨fun h => by omega, fun _ => by rw [← h.1 (Nat.le_refl _)]; unfold smk; rw [if_neg (by omega)]⟩
theorem SmAt.yes {n m k : Nat} {out : List Int} {run : Int} (h : SmAt n m k out run) (h1 : 1 ≤ k) (hk : k < n) (hb : m / 2 ^ (k - 1) % 2 = 1) : SmAt n m (k + 1) (out ++ [run]) 1 := by
  refine ⟨fun _ => ?_, fun h => by omega⟩
  obtain ⟨j, rfl⟩ : ∃ j, k = j + 1 := ⟨k - 1, by omega⟩
  have e := h.1 (by omega)
  rw [Nat.add_sub_cancel] at e hb ⊢
  rw [bitsN, decide_eq_true hb, ofB_true, e]; rfl
theorem SmAt.no {n m k : Nat} {out : List Int} {run : Int} (h : SmAt n m k out run) (h1 : 1 ≤ k) (hk : k < n) (hb : ¬ m / 2 ^ (k - 1) % 2 = 1) : SmAt n m (k + 1) out (run + 1) := by
  refine ⟨fun _ => ?_, fun h => by omega⟩
  obtain ⟨j, rfl⟩ : ∃ j, k = j + 1 := ⟨k - 1, by omega⟩
  have e := h.1 (by omega)
  rw [Nat.add_sub_cancel] at e hb ⊢
  rw [bitsN, decide_eq_false hb, ofB_false _ [] out run e]; rfl
theorem smlist_any (n m : Nat) (w : World) (hn : n ≤ 16) :
    Calls Try.prog 69 #[.agg #[.int .i64 n, .int .i64 m]] w fun e w' => ∃ a' c', e = .returned (.slice a' (smk n m).length c') ∧ Own w' w.heap.size w'.heap.size 3 (.slice a' (smk n m).length c') (ints (smk n m)) ∧ Below w.heap.size w w' := by
  obtain ⟨i0, hi, hz0, hz1, hz2⟩ := T_int'
  go_enter Try.func69, Try.ntmps69
  go_wp2
  go_loopw [3, 4, 5] (fun v b i wr => ∃ k : Nat, 1 ≤ k ∧ k ≤ n + 1 ∧ i = .int .i64 k ∧ (∃ (out : List Int) (run : Int), Hid (SmAt n m k out run) ∧ out.length < k ∧ 1 ≤ run ∧ run ≤ k ∧ b = .int .i64 ((k : Int) - run) ∧ Own wr (w.heap.size + 1) wr.heap.size 3 v (ints out)) ∧
    Below (w.heap.size + 1) (w.alloc (.cells #[.int .i64 n, .int .i64 m] 76)) wr) (fun _ _ i _ => n + 1 - (intOf i).toNat)
  case atStart =>
    refine ⟨1, Nat.le_refl _, by omega, rfl, ⟨[], 1, Lib.hid (SmAt.first n m), by simp, by omega, by omega, rfl, ?_⟩, Below.refl _ _⟩
    have := Own.nil (w.alloc (.cells #[.int .i64 n, .int .i64 m] 76)) (w.heap.size + 1) 3
    exact this
  case round =>
    obtain ⟨k, hk1, hk2, rfl, ⟨out, run, HS, hol, hr1, hr2, rfl, hown⟩, hbel⟩ := hrel
    have hbx := (Blk.new w 76 #[Value.int .i64 n, Value.int .i64 m]).below hbel (by omega)
    have hc0 := hbx.cell 0
    have hc1 := hbx.cell 1
    simp at hc0 hc1
    have hbs := hbel.size
    rw [World.size_alloc] at hbs
    have HO := Lib.hid hown
    clear hown
    obtain ⟨vs, hvs⟩ : ∃ vs, vs = ints out := ⟨_, rfl⟩
    have hlv : vs.length < k := by rw [hvs]; simpa using hol
    have HVS := Lib.hid hvs
    rw [← hvs] at HO
    clear hvs
    have hrs : (k : Int) - ((k : Int) - run) = run := by omega
    by_cases hlt : k ≤ n
    · by_cases hl : k = n
      · subst hl
        have HN := Lib.hid (HS.out.last hk1)
        clear HS
        go_wp2_with (first | (go_at_call 89; refine (endsAt_last k m _).mono ?_; rintro e w1 ⟨rfl, hb1⟩) | (at_builtin; (refine wpList_append_o _ rfl (.tmp 15) (.tmp 19) 22 rfl (w.heap.size + 1) wr.heap.size 3 i0 (.int .i64 0) 8 Try.underlying22 hi hz0 hz1 hz2 rfl _ vs rfl ((HO.out.below hb1).alloc _) (w1.heap.size + 1) (some ⟨w1.heap.size, 0, none⟩) 1 1 [.int .i64 run] rfl (Rd.one _ _ _) rfl (by simp; rfl) (by unfold maxLen; omega) (by omega) (by have := hb1.size; simp; omega) ?_); intro v' w2 ho1 hg1 hat1))
        go_roundw
        case rel =>
          refine ⟨k + 1, by omega, by omega, by go_num, ⟨out ++ [run], 1, HN, by simp; omega, by omega, by omega, by go_num, ?_⟩, below_push (hbel.trans (hb1.mono hbs)) (by simp) hg1 HO.out.base⟩
          rw [HVS.out] at ho1
          simpa [ints] using ho1
        case measure => simp [intOf] <;> omega
      · have hkn : k < n := by omega
        clear hl
        by_cases hb : m / 2 ^ (k - 1) % 2 = 1
        · have HN := Lib.hid (HS.out.yes hk1 hkn hb)
          have HD := Lib.hid (decide_eq_true hb)
          clear HS hb
          go_wp2_with (first | (go_at_call 89; refine (endsAt_mid n m k _ hk1 hkn hn).mono ?_; rintro e w1 ⟨rfl, hb1⟩; rw [HD.out]) | (at_builtin; (refine wpList_append_o _ rfl (.tmp 15) (.tmp 19) 22 rfl (w.heap.size + 1) wr.heap.size 3 i0 (.int .i64 0) 8 Try.underlying22 hi hz0 hz1 hz2 rfl _ vs rfl ((HO.out.below hb1).alloc _) (w1.heap.size + 1) (some ⟨w1.heap.size, 0, none⟩) 1 1 [.int .i64 run] rfl (Rd.one _ _ _) rfl (by simp; rfl) (by unfold maxLen; omega) (by omega) (by have := hb1.size; simp; omega) ?_); intro v' w2 ho1 hg1 hat1))
          go_roundw
          case rel =>
            refine ⟨k + 1, by omega, by omega, by go_num, ⟨out ++ [run], 1, HN, by simp; omega, by omega, by omega, by go_num, ?_⟩, below_push (hbel.trans (hb1.mono hbs)) (by simp) hg1 HO.out.base⟩
            rw [HVS.out] at ho1
            simpa [ints] using ho1
          case measure => simp [intOf] <;> omega
        · have HN := Lib.hid (HS.out.no hk1 hkn hb)
          have HD := Lib.hid (decide_eq_false hb)
          clear HS hb
          go_wp2_with (go_at_call 89; refine (endsAt_mid n m k _ hk1 hkn hn).mono ?_; rintro e w1 ⟨rfl, hb1⟩; rw [HD.out])
          go_roundw
          case rel =>
            refine ⟨k + 1, by omega, by omega, by go_num, ⟨out, run + 1, HN, by omega, by omega, by omega, by go_num, ?_⟩, hbel.trans (hb1.mono hbs)⟩
            rw [← HVS.out]
            exact (HO.out.below hb1).more
          case measure => simp [intOf] <;> omega
    · obtain rfl : k = n + 1 := by omega
      have HE := Lib.hid (HS.out.2 rfl)
      obtain ⟨a', c', rfl⟩ := HO.out.form
      clear HS
      go_wp2
      go_ret
      have e : vs = ints (smk n m) := by rw [HVS.out, HE.out]
      have el : vs.length = (smk n m).length := by rw [e]; simp
      refine ⟨a', c', by rw [← el]; rfl, ?_, ?_⟩
      · have := HO.out.lower (lo' := w.heap.size) (by omega)
        rw [e] at this
        simpa using this
      · exact ((Below.refl w.heap.size w).alloc (Nat.le_refl _) _).trans (hbel.mono (by omega))
end Go.Proofs.Ytcjnmconehfbgaa
