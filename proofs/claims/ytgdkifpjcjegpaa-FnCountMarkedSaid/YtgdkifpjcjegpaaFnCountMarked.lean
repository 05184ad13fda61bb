/-
  'laws.FnCountMarked' returns true for every code, and the code reads as it did. No condition.
-/
import Derived.Test.YtgdkifpjcjegpaaRows
import Derived.Test.YtgdkifpjcjegpaaW85
import Derived.Test.YtgdkifpjcjegpaaD20
import Derived.Test.YtgdkifpjcjegpaaM42
import Derived.WalkKit
import Derived.ProofKit
import Derived.OpenShut
import Derived.ShutString
import Derived.ChangeOld
import Derived.Below
namespace Go.Proofs.Ytgdkifpjcjegpaa.fnCountMarked
open Go.ChangeShapes Go.WideShapes Go.ChangeAt Go.RowKit NP
open Go.ChangeMaps (open_string shut_string)
set_option linter.unusedVariables false

set_option maxHeartbeats 1600000 in
theorem walk (a : Option Addr) (c : Nat) (bs : List Int) (w0 : World) (h : Rd w0 w0.heap.size a (bs.map (Value.int .u8))) (hb : ∀ n ∈ bs, (Lit.int .u8 n).wf = true) (m : bs.length ≤ maxLen) (hc : bs.length ≤ c) :
    Calls Try.prog 6 #[.slice a bs.length c] w0 fun e w' => e = .returned (.bool true) ∧ Below w0.heap.size w0 w' := by
  unfold maxLen at m
  by_cases hl : bs.length ≤ 1048576
  · go_enter Try.func6, Try.ntmps6
    go_wp2_with fail
    refine (DrawCountMarked_any a c _ bs _ h (Nat.le_refl _) hb hl hc).mono ?_
    rintro e w1 ⟨n, rfl, hn, hA⟩
    clear h hb hl hc m
    by_cases hin : 0 ≤ n ∧ n ≤ 40
    · obtain ⟨m, rfl⟩ := Int.eq_ofNat_of_zero_le hin.1
      have hm : m ≤ 40 := by omega
      have hv := mkF_val hm
      have hvb := mkV_bd m (by omega)
      obtain ⟨x, hx⟩ : ∃ x, x = mkF (m : Int) := ⟨_, rfl⟩
      have hx0 : 0 ≤ x := by omega
      have HX := Lib.hid hx
      have HV := Lib.hid hv
      have g0 : decide (x < 0) = false := decide_eq_false (by omega)
      have hls : Hid (x = lms m 0) := Lib.hid (by rw [hx, hv]; rfl)
      clear hin hv hvb hx
      go_wp2_with fail
      refine (iCountMarked_any _ _).mono ?_
      rintro e w2 ⟨rfl, hb⟩
      replace hA := hA.trans (hb.mono hA.size)
      clear hb
      rw [← HX.out]
      go_wp2_with fail
      refine (sCountMarked_any _ _).mono ?_
      rintro e w3 ⟨rfl, hb⟩
      replace hA := hA.trans (hb.mono hA.size)
      clear hb
      rw [← HX.out]
      go_wp2_with fail
      go_loopw [5, 6, 7] (fun s g i wr => Below w0.heap.size w0 wr ∧ ∃ k : Nat, k ≤ lmk m ∧ i = .int .i64 ((k : Int) + 1) ∧ s = .int .i64 (lms m k) ∧ g = .int .i64 (if k % 2 = 0 then -2 else 2)) (fun _ _ i _ => 20 - (intOf i).toNat)
      case atStart => exact ⟨hA, 0, Nat.zero_le _, rfl, by rw [hls.out], rfl⟩
      case round =>
        obtain ⟨hA, k, hk, rfl, rfl, rfl⟩ := hrel
        have hk6 := (lmk_in m (by omega) 0 (by omega)).2
        have hin := (lmk_in m (by omega) k (by omega)).1
        have hlb := lms_bd m (by omega) k (by omega)
        have hsq0 : ((k : Int) + 1) * ((k : Int) + 1) = (((k + 1) * (k + 1) : Nat) : Int) := by rw [Int.natCast_mul]; rfl
        have hsq1 : (k + 1) * (k + 1) ≤ 49 := by
          have : ∀ j, j < 7 → (j + 1) * (j + 1) ≤ 49 := by decide
          exact this k (by omega)
        obtain ⟨q, hq⟩ : ∃ q : Nat, q = (k + 1) * (k + 1) := ⟨_, rfl⟩
        rw [← hq] at hin hsq0 hsq1
        have e1 : wrap64 (((k : Int) + 1) * ((k : Int) + 1)) = (q : Int) := by rw [hsq0]; exact IntWalk.wrap64_in _ (by omega)
        have e2 : IntKind.i64.wrap (((k : Int) + 1) * ((k : Int) + 1)) = (q : Int) := by rw [hsq0]; exact IntWalk.i64_in _ (by omega)
        have HS0 : Hid (lms m (k + 1) = lms m k + (if k % 2 = 0 then -2 else 2) * mkV.getD (m - q) 0) := Lib.hid (by rw [hq]; rfl)
        have HLB1 := Lib.hid (lms_bd m (by omega) (k + 1) (by omega))
        rw [HS0.out] at HLB1
        clear hsq0
        by_cases hlt : k < lmk m
        · have hqm : q ≤ m := hin.2 hlt
          have hqm' : (q : Int) ≤ (m : Int) := by omega
          have hV := mkF_val (n := m - q) (by omega)
          have hVb := mkV_bd (m - q) (by omega)
          have hmq : (m : Int) - (q : Int) = ((m - q : Nat) : Int) := by omega
          rw [← hmq] at hV
          have HVV := Lib.hid hV
          obtain ⟨v, hv⟩ : ∃ v, v = mkV.getD (m - q) 0 := ⟨_, rfl⟩
          rw [← hv] at HVV hVb HS0 HLB1
          have hlb1 := HLB1.out
          obtain ⟨s, hs⟩ : ∃ s, s = lms m k := ⟨_, rfl⟩
          rw [← hs] at hlb hlb1 HS0 ⊢
          clear hV hv hin hls HX HV hx0 g0 HLB1 hmq hq
          by_cases hpar : k % 2 = 0
          · have hpar1 : ¬ (k + 1) % 2 = 0 := by omega
            rw [if_pos hpar] at HS0 hlb1 ⊢
            have e3 : wrap64 (-2 * v) = -2 * v := IntWalk.wrap64_in _ (by omega)
            have e4 : IntKind.i64.wrap (-2 * v) = -2 * v := IntWalk.i64_in _ (by omega)
            have HP := Lib.hid hpar1
            clear hpar hpar1
            go_wp2_with fail
            refine (iCountMarked_any _ _).mono ?_
            rintro e w4 ⟨rfl, hb⟩
            replace hA := hA.trans (hb.mono hA.size)
            clear hb
            rw [HVV.out]
            go_wp2_with fail
            go_roundw
            case rel => exact ⟨hA, k + 1, by omega, by go_num, by rw [HS0.out]; try (congr 1; omega), by rw [if_neg HP.out]; try rfl⟩
            case measure => simp [intOf]; omega
          · have hpar1 : (k + 1) % 2 = 0 := by omega
            rw [if_neg hpar] at HS0 hlb1 ⊢
            have e3 : wrap64 (2 * v) = 2 * v := IntWalk.wrap64_in _ (by omega)
            have e4 : IntKind.i64.wrap (2 * v) = 2 * v := IntWalk.i64_in _ (by omega)
            have HP := Lib.hid hpar1
            clear hpar hpar1
            go_wp2_with fail
            refine (iCountMarked_any _ _).mono ?_
            rintro e w4 ⟨rfl, hb⟩
            replace hA := hA.trans (hb.mono hA.size)
            clear hb
            rw [HVV.out]
            go_wp2_with fail
            go_roundw
            case rel => exact ⟨hA, k + 1, by omega, by go_num, by rw [HS0.out]; try (congr 1; omega), by rw [if_pos HP.out]; try rfl⟩
            case measure => simp [intOf]; omega
        · obtain rfl : k = lmk m := by omega
          have hqm : (m : Int) < (q : Int) := by
            have : ¬ q ≤ m := fun h => by have := hin.1 h; omega
            omega
          have hend := lms_end m (by omega)
          rw [hend]
          clear HS0 HLB1 hlb hin hend hls HX HV hq
          generalize (if lmk m % 2 = 0 then (-2 : Int) else 2) = sg
          by_cases hz : m = 0
          · subst hz
            rw [if_pos rfl]
            go_wp2_with fail
            go_ret
            exact ⟨rfl, hA⟩
          · have b0 : ((m : Int) == 0) = false := beq_eq_false_iff_ne.2 (by omega)
            have b1 : 0 < m := by omega
            have b2 : ¬ (m = 0) := hz
            rw [if_neg hz]
            go_wp2_with fail
            go_ret
            exact ⟨rfl, hA⟩
    · have hF : mkF n = -1 := by unfold mkF; rw [if_neg hin]
      have HF := Lib.hid hF
      clear hin hF
      go_wp2_with fail
      refine (iCountMarked_any _ _).mono ?_
      rintro e w2 ⟨rfl, hb⟩
      replace hA := hA.trans (hb.mono hA.size)
      clear hb
      rw [HF.out]
      go_wp2_with fail
      refine (sCountMarked_any _ _).mono ?_
      rintro e w3 ⟨rfl, hb⟩
      replace hA := hA.trans (hb.mono hA.size)
      clear hb
      rw [HF.out]
      go_wp2_with fail
      refine (sCountMarked_any _ _).mono ?_
      rintro e w4 ⟨rfl, hb⟩
      replace hA := hA.trans (hb.mono hA.size)
      clear hb
      rw [HF.out]
      go_wp2_with fail
      go_ret
      exact ⟨rfl, hA⟩
  · have hl' : 1048576 < bs.length := by omega
    go_enter Try.func6, Try.ntmps6
    go_wp2_with fail
    go_ret
    exact ⟨rfl, Below.refl _ _⟩

theorem own : ownKnob Try.prog.godebug = none := by kernel_rfl
theorem laidOut : laidOutB Try.prog = true := by kernel_rfl

set_option maxRecDepth 100000 in
theorem lifted (os : Os) (started : os.Started) (H : Type) (enc : TypeId × Value → H) :
    ReturnsInHanded {} Try.checked os 6 .any (Rows.fnCountMarkedSpec.pre6 enc Try.prog Try.f6 Rows.fnCountMarkedRow.domain false) (Rows.fnCountMarkedSpec.post enc Try.prog Try.f6 false true false false) := by
  refine returnsInHanded_of_change (C := Try.checked) own started (by kernel_rfl) Try.func6
    (ChangeSpec.witness6 (enc := enc) (C := Try.checked) false ⟨#[], #[.slice none 0 0], []⟩ 8 (by kernel_rfl) (by kernel_rfl) (by kernel_rfl) (by kernel_rfl)) ?_
  intro W base args ds gs before hval0 hW hcnd _
  have hval : ∀ (j : Nat) t v, Try.f6.params[j]? = some t → args[j]? = some v → Value.okWide Try.prog W .any base t v := hval0
  have hW' := hW
  obtain ⟨p, q, hA0, hV, rfl, hfz, hnd⟩ := hW
  have hA : DataW.TrodAll enc Try.prog W 0 (fun _ => true) true Try.f6.params.toList args.toList ds p := hA0
  rw [Try.params6] at hA hval
  obtain ⟨v0, vs0, d0, ds0, p0, q0, hargs, rfl, rfl, h0, r0⟩ := trodAll_cons hA
  obtain ⟨rfl, rfl, rfl⟩ := trodAll_nil r0
  obtain rfl : args = #[v0] := by cases args; simp_all
  obtain ⟨rfl, rfl⟩ := trodVars_none hV
  obtain ⟨a0, len0, cap0, rfl⟩ := okWide_slice Try.underlying24 (hval 0 24 v0 rfl rfl)
  have k0 := h0
  have lt0 : ∀ x ∈ p0, x.block < W.heap.size := by obtain ⟨m, hm⟩ := k0; exact DataW.trod_lt m _ _ _ hm
  obtain ⟨z0, w0⟩ : ∃ zs, IsRow .u8 W a0 len0 cap0 zs := by
    obtain ⟨fuel, hf⟩ := h0
    rcases open_ints Try.underlying24 Try.underlying5 (by kernel_rfl) hf with ⟨hcs, _⟩ | ⟨x, l, c, zs, hcs, _, hl, hm, hz, _, hcell, hwz⟩
    · simp [Value.cells] at hcs
      obtain ⟨rfl, rfl, rfl⟩ := hcs
      exact ⟨[], .inl ⟨rfl, rfl, rfl, rfl⟩⟩
    · simp [Value.cells] at hcs
      obtain ⟨rfl, rfl, rfl⟩ := hcs
      exact ⟨zs, .inr ⟨_, rfl, hl, hm, by simpa using hz, hcell, hwz⟩⟩
  have lc0 := w0.lc
  obtain ⟨L0, rfl, R0, wf0, m0⟩ := w0.rd
  clear hA0 hval0
  refine (walk a0 cap0 L0 W R0 wf0 m0 (by simpa using lc0)).mono fun e W' ⟨he, bel⟩ => ?_
  subst he
  exact ⟨_, rfl, _, _, _, [], _, [], hW', trodAll_mk1 (shut_bool Try.underlying4 _), (trodAll_cons_mk (Below.trod laidOut (by kernel_rfl) (of_decide_eq_true (by kernel_rfl)) k0 bel lt0) trodAll_mk0), rfl, bel.frame _, fun h => by cases h⟩

theorem over : Rows.fnCountMarkedRow.holds Try.pinned (OpenSpec.ofChange Rows.fnCountMarkedSpec) :=
  OpenClaim.holds_of_wide 6 Try.f6 rfl rfl rfl rfl rfl rfl rfl ⟨rfl, rfl, rfl, rfl, rfl⟩ rfl rfl rfl rfl rfl (by kernel_rfl) Try.func6 (by kernel_rfl)
    (of_decide_eq_true (by kernel_rfl)) (by unfold Func.isWrapper; first | (rw [if_pos (by decide +kernel)]; kernel_rfl) | (rw [if_neg (by decide +kernel)]; exact ⟨rfl, rfl⟩))
    (fun os started H enc _ => lifted os started H enc)

/-- the given statement -/
theorem proved : Rows.FnCountMarkedSaid := over
end Go.Proofs.Ytgdkifpjcjegpaa.fnCountMarked
