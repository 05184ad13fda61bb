/-
  'laws.FnSquareSum' returns true for every code, and the code reads as it did. No condition.
-/
import Derived.Test.YtifhnjnpbpgjfaaRows
import Derived.Test.YtifhnjnpbpgjfaaZk1
import Derived.Test.YtifhnjnpbpgjfaaZk2
import Derived.Test.YtifhnjnpbpgjfaaZk3
import Derived.Test.YtifhnjnpbpgjfaaZk4
import Derived.Test.YtifhnjnpbpgjfaaZk5
import Derived.Test.YtifhnjnpbpgjfaaZk6
import Derived.Test.YtifhnjnpbpgjfaaZk7
import Derived.Test.YtifhnjnpbpgjfaaZk8
import Derived.Test.YtifhnjnpbpgjfaaZk9
import Derived.WalkKit
import Derived.ProofKit
import Derived.OpenShut
import Derived.ShutString
import Derived.ChangeOld
import Derived.Below
namespace Go.Proofs.Ytifhnjnpbpgjfaa.fnSquareSum
open Go.ChangeShapes Go.WideShapes Go.ChangeAt Go.RowKit NP
open Go.ChangeMaps (open_string shut_string)
set_option linter.unusedVariables false

set_option linter.unusedSimpArgs false
set_option maxRecDepth 100000 in
set_option maxHeartbeats 4000000 in
theorem walk (a : Option Addr) (c : Nat) (bs : List Int) (w0 : World) (h : Rd w0 w0.heap.size a (bs.map (Value.int .u8))) (hb : ∀ n ∈ bs, (Lit.int .u8 n).wf = true) (m : bs.length ≤ maxLen) (hc : bs.length ≤ c) :
    Calls Try.prog 3 #[.slice a bs.length c] w0 fun e w' => e = .returned (.bool true) ∧ Below w0.heap.size w0 w' := by
  unfold maxLen at m
  by_cases hl : bs.length ≤ 1048576
  · go_enter Try.func3, Try.ntmps3
    go_wp2_with fail
    refine (DrawSquareSum_any a c _ bs _ h (Nat.le_refl _) hb hl hc).mono ?_
    rintro e w1 ⟨n, rfl, hn, hA⟩
    clear h hb hl hc m
    by_cases hin : 0 ≤ n ∧ n ≤ 40
    · obtain ⟨m, rfl⟩ := Int.eq_ofNat_of_zero_le hin.1
      have hm : m ≤ 40 := by omega
      obtain ⟨s, hs⟩ : ∃ s, sqF (m : Int) = s := ⟨_, rfl⟩
      have hs0 : 0 ≤ s := by rw [← hs, sqF_T m hm]; omega
      have g0 : decide (s < 0) = false := decide_eq_false (by omega)
      have HS := Lib.hid hs
      clear hin hs
      go_wp2_with fail
      refine (iSquareSum_any (m : Int) _).mono ?_
      rintro e w2 ⟨rfl, hb⟩
      replace hA := hA.trans (hb.mono hA.size)
      have hz2 := hb.size
      clear hb
      rw [HS.out]
      go_wp2_with fail
      refine (sSquareSum_any (m : Int) _).mono ?_
      rintro e w' ⟨rfl, rfl⟩
      rw [HS.out]
      have HQ : Hid (cntF false (sq5 m) (m : Int) = s) := Lib.hid ((sq_cnt m hm).trans HS.out)
      obtain ⟨i0, hi, hz00, hz01, hz02⟩ := T_int'
      by_cases h12 : 12 < m

      · have d12 : decide (12 < m) = true := decide_eq_true h12
        have d12i : (12 : Int) < (m : Int) := by omega
        clear h12
        go_wp2_with fail
        go_loopw [5, 6] (fun v i wr => ∃ j : Nat, j ≤ m ∧ i = .int .i64 ((j : Int) + 1) ∧ Below w0.heap.size w0 wr ∧ Own wr w0.heap.size wr.heap.size 3 v (ints (sq5 j))) (fun _ i _ => 50 - (intOf i).toNat)
        case atStart => exact ⟨0, Nat.zero_le _, rfl, hA.alloc hA.size _, (Own.empty w2 3).more.lower hA.size⟩
        case round =>
          clear hA
          obtain ⟨j, hj, rfl, hA, hown⟩ := hrel
          have hbs := hA.size
          obtain ⟨aS, cS, rfl⟩ := hown.form
          have hl5 := sq5_len j
          rw [List.length_map] at hown ⊢
          by_cases hlt : j < m
          · have hx2 : (j : Int) + 1 ≤ (m : Int) := by omega
            have HO := Lib.hid hown
            have HSU := Lib.hid (sq5_succ j)
            obtain ⟨vs, hvs⟩ : ∃ vs, vs = ints (sq5 j) := ⟨_, rfl⟩
            have hvl : vs.length ≤ 40 := by rw [hvs, List.length_map]; omega
            rw [← hvs] at HO
            have HVS := Lib.hid hvs
            have hw1 : IntKind.i64.wrap ((j : Int) + 1 + 1) = (j : Int) + 1 + 1 := IntWalk.i64_in _ (by omega)
            obtain ⟨r, hr⟩ : ∃ r : Int, r = ((j : Int) + 1) % 5 := ⟨_, rfl⟩
            have hmod : ((j : Int) + 1).tmod 5 = r := by rw [Int.tmod_eq_emod_of_nonneg (by omega), hr]
            have hmod2 : ((j : Int) + 1) % 5 = r := hr.symm
            have HR := Lib.hid hr
            clear hown hvs hr
            by_cases a1 : r = 1
            · have b1 : (r == 1) = true := beq_iff_eq.2 a1
              have HIN : Hid (in5 (j + 1) = true) := Lib.hid (by unfold in5; have := HR.out; simp; omega)
              clear a1
              go_wp2_with (at_builtin; refine wpList_append_o _ rfl (.tmp 40) (.tmp 42) 25 rfl w0.heap.size wr.heap.size 3 i0 (.int .i64 0) 8 Try.underlying25 hi hz00 hz01 hz02 rfl _ vs rfl (HO.out.alloc _) (wr.heap.size + 1) (some ⟨wr.heap.size, 0, none⟩) 1 1 [.int .i64 ((j : Int) + 1)] rfl (Rd.one wr _ _) rfl (by simp; rfl) (by unfold maxLen; omega) (by omega) (by simp; omega) ?_; intro v' w9 ho9 hg9 hat9)
              go_roundw
              case rel =>
                refine ⟨j + 1, by omega, by go_num, below_push hA (Nat.le_refl _) hg9 HO.out.base, ?_⟩
                rw [HVS.out] at ho9
                rw [HSU.out, if_pos HIN.out, ints, List.map_append]
                simpa [ints] using ho9
              case measure => simp [intOf] <;> omega
            · by_cases a4 : r = 4
              · have b1 : (r == 1) = false := beq_eq_false_iff_ne.2 a1
                have b4 : (r == 4) = true := beq_iff_eq.2 a4
                have HIN : Hid (in5 (j + 1) = true) := Lib.hid (by unfold in5; have := HR.out; simp; omega)
                clear a1 a4
                go_wp2_with (at_builtin; refine wpList_append_o _ rfl (.tmp 40) (.tmp 42) 25 rfl w0.heap.size wr.heap.size 3 i0 (.int .i64 0) 8 Try.underlying25 hi hz00 hz01 hz02 rfl _ vs rfl (HO.out.alloc _) (wr.heap.size + 1) (some ⟨wr.heap.size, 0, none⟩) 1 1 [.int .i64 ((j : Int) + 1)] rfl (Rd.one wr _ _) rfl (by simp; rfl) (by unfold maxLen; omega) (by omega) (by simp; omega) ?_; intro v' w9 ho9 hg9 hat9)
                go_roundw
                case rel =>
                  refine ⟨j + 1, by omega, by go_num, below_push hA (Nat.le_refl _) hg9 HO.out.base, ?_⟩
                  rw [HVS.out] at ho9
                  rw [HSU.out, if_pos HIN.out, ints, List.map_append]
                  simpa [ints] using ho9
                case measure => simp [intOf] <;> omega
              · have b1 : (r == 1) = false := beq_eq_false_iff_ne.2 a1
                have b4 : (r == 4) = false := beq_eq_false_iff_ne.2 a4
                have HIN : Hid (in5 (j + 1) = false) := Lib.hid (by unfold in5; have := HR.out; simp; omega)
                clear a1 a4
                go_wp2_with fail
                go_roundw
                case rel => exact ⟨j + 1, by omega, by go_num, hA, by rw [HSU.out, HIN.out, if_neg (by simp), List.append_nil, ← HVS.out]; exact HO.out⟩
                case measure => simp [intOf] <;> omega
          · obtain rfl : j = m := by omega
            have hx2 : ¬ (j : Int) + 1 ≤ (j : Int) := by omega
            have HO := Lib.hid hown
            clear hown hlt
            go_wp2_with fail
            refine (iCountIn_any aS cS _ (sq5 j) (j : Int) wr HO.out.rd HO.out.le (by omega)).mono ?_
            rintro e w20 ⟨rfl, hb⟩
            replace hA := hA.trans (hb.mono hA.size)
            clear hb
            rw [HQ.out]
            go_wp2_with fail
            go_ret
            exact ⟨rfl, hA⟩
      · have d12 : decide (12 < m) = false := decide_eq_false h12
        have d12i : ¬ (12 : Int) < (m : Int) := by omega
        have HKC : Hid (kcF (⟨#[103, 97, 112]⟩ : ByteArray).data.toList (m : Int) = s) := Lib.hid ((gap_cnt m (by omega)).trans HS.out)
        clear h12
        go_wp2_with fail
        go_loopw [5, 6] (fun v i wr => ∃ j : Nat, j ≤ m ∧ i = .int .i64 ((j : Int) + 1) ∧ Below w0.heap.size w0 wr ∧ Own wr w0.heap.size wr.heap.size 3 v (ints (sq5 j))) (fun _ i _ => 50 - (intOf i).toNat)
        case atStart => exact ⟨0, Nat.zero_le _, rfl, hA.alloc hA.size _, (Own.empty w2 3).more.lower hA.size⟩
        case round =>
          clear hA
          obtain ⟨j, hj, rfl, hA, hown⟩ := hrel
          have hbs := hA.size
          obtain ⟨aS, cS, rfl⟩ := hown.form
          have hl5 := sq5_len j
          rw [List.length_map] at hown ⊢
          by_cases hlt : j < m
          · have hx2 : (j : Int) + 1 ≤ (m : Int) := by omega
            have HO := Lib.hid hown
            have HSU := Lib.hid (sq5_succ j)
            obtain ⟨vs, hvs⟩ : ∃ vs, vs = ints (sq5 j) := ⟨_, rfl⟩
            have hvl : vs.length ≤ 40 := by rw [hvs, List.length_map]; omega
            rw [← hvs] at HO
            have HVS := Lib.hid hvs
            have hw1 : IntKind.i64.wrap ((j : Int) + 1 + 1) = (j : Int) + 1 + 1 := IntWalk.i64_in _ (by omega)
            obtain ⟨r, hr⟩ : ∃ r : Int, r = ((j : Int) + 1) % 5 := ⟨_, rfl⟩
            have hmod : ((j : Int) + 1).tmod 5 = r := by rw [Int.tmod_eq_emod_of_nonneg (by omega), hr]
            have hmod2 : ((j : Int) + 1) % 5 = r := hr.symm
            have HR := Lib.hid hr
            clear hown hvs hr
            by_cases a1 : r = 1
            · have b1 : (r == 1) = true := beq_iff_eq.2 a1
              have HIN : Hid (in5 (j + 1) = true) := Lib.hid (by unfold in5; have := HR.out; simp; omega)
              clear a1
              go_wp2_with (at_builtin; refine wpList_append_o _ rfl (.tmp 40) (.tmp 42) 25 rfl w0.heap.size wr.heap.size 3 i0 (.int .i64 0) 8 Try.underlying25 hi hz00 hz01 hz02 rfl _ vs rfl (HO.out.alloc _) (wr.heap.size + 1) (some ⟨wr.heap.size, 0, none⟩) 1 1 [.int .i64 ((j : Int) + 1)] rfl (Rd.one wr _ _) rfl (by simp; rfl) (by unfold maxLen; omega) (by omega) (by simp; omega) ?_; intro v' w9 ho9 hg9 hat9)
              go_roundw
              case rel =>
                refine ⟨j + 1, by omega, by go_num, below_push hA (Nat.le_refl _) hg9 HO.out.base, ?_⟩
                rw [HVS.out] at ho9
                rw [HSU.out, if_pos HIN.out, ints, List.map_append]
                simpa [ints] using ho9
              case measure => simp [intOf] <;> omega
            · by_cases a4 : r = 4
              · have b1 : (r == 1) = false := beq_eq_false_iff_ne.2 a1
                have b4 : (r == 4) = true := beq_iff_eq.2 a4
                have HIN : Hid (in5 (j + 1) = true) := Lib.hid (by unfold in5; have := HR.out; simp; omega)
                clear a1 a4
                go_wp2_with (at_builtin; refine wpList_append_o _ rfl (.tmp 40) (.tmp 42) 25 rfl w0.heap.size wr.heap.size 3 i0 (.int .i64 0) 8 Try.underlying25 hi hz00 hz01 hz02 rfl _ vs rfl (HO.out.alloc _) (wr.heap.size + 1) (some ⟨wr.heap.size, 0, none⟩) 1 1 [.int .i64 ((j : Int) + 1)] rfl (Rd.one wr _ _) rfl (by simp; rfl) (by unfold maxLen; omega) (by omega) (by simp; omega) ?_; intro v' w9 ho9 hg9 hat9)
                go_roundw
                case rel =>
                  refine ⟨j + 1, by omega, by go_num, below_push hA (Nat.le_refl _) hg9 HO.out.base, ?_⟩
                  rw [HVS.out] at ho9
                  rw [HSU.out, if_pos HIN.out, ints, List.map_append]
                  simpa [ints] using ho9
                case measure => simp [intOf] <;> omega
              · have b1 : (r == 1) = false := beq_eq_false_iff_ne.2 a1
                have b4 : (r == 4) = false := beq_eq_false_iff_ne.2 a4
                have HIN : Hid (in5 (j + 1) = false) := Lib.hid (by unfold in5; have := HR.out; simp; omega)
                clear a1 a4
                go_wp2_with fail
                go_roundw
                case rel => exact ⟨j + 1, by omega, by go_num, hA, by rw [HSU.out, HIN.out, if_neg (by simp), List.append_nil, ← HVS.out]; exact HO.out⟩
                case measure => simp [intOf] <;> omega
          · obtain rfl : j = m := by omega
            have hx2 : ¬ (j : Int) + 1 ≤ (j : Int) := by omega
            have HO := Lib.hid hown
            clear hown hlt
            go_wp2_with fail
            refine (iCountIn_any aS cS _ (sq5 j) (j : Int) wr HO.out.rd HO.out.le (by omega)).mono ?_
            rintro e w20 ⟨rfl, hb⟩
            replace hA := hA.trans (hb.mono hA.size)
            clear hb
            rw [HQ.out]
            go_wp2_with fail
            refine (iKindCount_any ⟨#[103, 97, 112]⟩ (by decide) (j : Int) _).mono ?_
            rintro e w21 ⟨rfl, hb⟩
            replace hA := hA.trans (hb.mono hA.size)
            clear hb
            rw [HKC.out]
            go_wp2_with fail
            go_ret
            exact ⟨rfl, hA⟩
    · have hF : sqF n = -1 := by unfold sqF; rw [if_neg hin]
      have HF := Lib.hid hF
      have g0 : decide ((-1 : Int) < 0) = true := by decide
      clear hin hF
      go_wp2_with fail
      refine (iSquareSum_any n _).mono ?_
      rintro e w2 ⟨rfl, hb⟩
      replace hA := hA.trans (hb.mono hA.size)
      have hz2 := hb.size
      clear hb
      rw [HF.out]
      go_wp2_with fail
      refine (sSquareSum_any n _).mono ?_
      rintro e w' ⟨rfl, rfl⟩
      rw [HF.out]
      go_wp2_with fail
      refine (sSquareSum_any n _).mono ?_
      rintro e w' ⟨rfl, rfl⟩
      rw [HF.out]
      go_wp2_with fail
      go_ret
      exact ⟨rfl, hA⟩
  · have hl' : 1048576 < bs.length := by omega
    go_enter Try.func3, Try.ntmps3
    go_wp2_with fail
    go_ret
    exact ⟨rfl, Below.refl _ _⟩

theorem own : ownKnob Try.prog.godebug = none := by kernel_rfl
theorem laidOut : laidOutB Try.prog = true := by kernel_rfl

set_option maxRecDepth 100000 in
theorem lifted (os : Os) (started : os.Started) (H : Type) (enc : TypeId × Value → H) :
    ReturnsInHanded {} Try.checked os 3 .any (Rows.fnSquareSumSpec.pre6 enc Try.prog Try.f3 Rows.fnSquareSumRow.domain false) (Rows.fnSquareSumSpec.post enc Try.prog Try.f3 false true false false) := by
  refine returnsInHanded_of_change (C := Try.checked) own started (by kernel_rfl) Try.func3
    (ChangeSpec.witness6 (enc := enc) (C := Try.checked) false ⟨#[], #[.slice none 0 0], []⟩ 8 (by kernel_rfl) (by kernel_rfl) (by kernel_rfl) (by kernel_rfl)) ?_
  intro W base args ds gs before hval0 hW hcnd _
  have hval : ∀ (j : Nat) t v, Try.f3.params[j]? = some t → args[j]? = some v → Value.okWide Try.prog W .any base t v := hval0
  have hW' := hW
  obtain ⟨p, q, hA0, hV, rfl, hfz, hnd⟩ := hW
  have hA : DataW.TrodAll enc Try.prog W 0 (fun _ => true) true Try.f3.params.toList args.toList ds p := hA0
  rw [Try.params3] at hA hval
  obtain ⟨v0, vs0, d0, ds0, p0, q0, hargs, rfl, rfl, h0, r0⟩ := trodAll_cons hA
  obtain ⟨rfl, rfl, rfl⟩ := trodAll_nil r0
  obtain rfl : args = #[v0] := by cases args; simp_all
  obtain ⟨rfl, rfl⟩ := trodVars_none hV
  obtain ⟨a0, len0, cap0, rfl⟩ := okWide_slice Try.underlying22 (hval 0 22 v0 rfl rfl)
  have k0 := h0
  have lt0 : ∀ x ∈ p0, x.block < W.heap.size := by obtain ⟨m, hm⟩ := k0; exact DataW.trod_lt m _ _ _ hm
  obtain ⟨z0, w0⟩ : ∃ zs, IsRow .u8 W a0 len0 cap0 zs := by
    obtain ⟨fuel, hf⟩ := h0
    rcases open_ints Try.underlying22 Try.underlying5 (by kernel_rfl) hf with ⟨hcs, _⟩ | ⟨x, l, c, zs, hcs, _, hl, hm, hz, _, hcell, hwz⟩
    · simp [Value.cells] at hcs
      obtain ⟨rfl, rfl, rfl⟩ := hcs
      exact ⟨[], .inl ⟨rfl, rfl, rfl, rfl⟩⟩
    · simp [Value.cells] at hcs
      obtain ⟨rfl, rfl, rfl⟩ := hcs
      exact ⟨zs, .inr ⟨_, rfl, hl, hm, by simpa using hz, hcell, hwz⟩⟩
  have lc0 := w0.lc
  obtain ⟨L0, rfl, R0, wf0, m0⟩ := w0.rd
  clear hA0 hval0
  refine (walk a0 cap0 L0 W R0 wf0 m0 (by simpa using lc0)).mono fun e W' ⟨he, bel⟩ => ?_
  subst he
  exact ⟨_, rfl, _, _, _, [], _, [], hW', trodAll_mk1 (shut_bool Try.underlying4 _), (trodAll_cons_mk (Below.trod laidOut (by kernel_rfl) (of_decide_eq_true (by kernel_rfl)) k0 bel lt0) trodAll_mk0), rfl, bel.frame _, fun h => by cases h⟩

theorem over : Rows.fnSquareSumRow.holds Try.pinned (OpenSpec.ofChange Rows.fnSquareSumSpec) :=
  OpenClaim.holds_of_wide 3 Try.f3 rfl rfl rfl rfl rfl rfl rfl ⟨rfl, rfl, rfl, rfl, rfl⟩ rfl rfl rfl rfl rfl (by kernel_rfl) Try.func3 (by kernel_rfl)
    (of_decide_eq_true (by kernel_rfl)) (by unfold Func.isWrapper; first | (rw [if_pos (by decide +kernel)]; kernel_rfl) | (rw [if_neg (by decide +kernel)]; exact ⟨rfl, rfl⟩))
    (fun os started H enc _ => lifted os started H enc)

/-- the given statement -/
theorem proved : Rows.FnSquareSumSaid := over
end Go.Proofs.Ytifhnjnpbpgjfaa.fnSquareSum
