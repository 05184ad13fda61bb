/-
  'laws.FnDivisorSum' returns true for every code, and the code reads as it did. No condition.
-/
import Derived.Test.YtmdalnkjpbjcdaaRows
import Derived.Test.YtmdalnkjpbjcdaaC5
import Derived.Test.YtmdalnkjpbjcdaaM13
import Derived.WalkKit
import Derived.ProofKit
import Derived.OpenShut
import Derived.ShutString
import Derived.ChangeOld
import Derived.Below
namespace Go.Proofs.Ytmdalnkjpbjcdaa.fnDivisorSum
open Go.ChangeShapes Go.WideShapes Go.ChangeAt Go.RowKit NP
open Go.ChangeMaps (open_string shut_string)
set_option linter.unusedVariables false

set_option maxHeartbeats 800000 in
theorem walk (a : Option Addr) (c : Nat) (bs : List Int) (w0 : World) (h : Rd w0 w0.heap.size a (bs.map (Value.int .u8))) (hb : ∀ n ∈ bs, (Lit.int .u8 n).wf = true) (m : bs.length ≤ maxLen) (hc : bs.length ≤ c) :
    Calls Try.prog 12 #[.slice a bs.length c] w0 fun e w' => e = .returned (.bool true) ∧ Below w0.heap.size w0 w' := by
  unfold maxLen at m
  by_cases hl : bs.length ≤ 1048576
  · go_enter Try.func12, Try.ntmps12
    go_wp2_with fail
    refine (DrawDivisorSum_any a c _ bs _ h (Nat.le_refl _) hb hl hc).mono ?_
    rintro e w1 ⟨n, rfl, hn, hA⟩
    clear h hb hl hc m
    by_cases hin : 1 ≤ n ∧ n ≤ 40
    · obtain ⟨m, rfl⟩ := Int.eq_ofNat_of_zero_le (by omega : 0 ≤ n)
      have hm : m ≤ 40 := by omega
      have hdb := dv_bd m (by omega) hm
      have g0 : decide (dvF (m : Int) < 0) = false := decide_eq_false (by omega)
      have g1 : decide ((m : Int) ≤ dvF (m : Int)) = true := decide_eq_true hdb.1
      have hcb := prod_bd2 (x := (m : Int)) (y := cpF (m : Int)) (by omega) (cp_bd (m : Int) (by omega) (by omega))
      obtain ⟨pe, hpe0, e1, e2, HPE⟩ : ∃ pe : Int, (0 ≤ pe ∧ pe ≤ 1099511627776000) ∧ wrap64 ((m : Int) * cpF (m : Int)) = pe ∧ IntKind.i64.wrap ((m : Int) * cpF (m : Int)) = pe ∧ Hid ((m : Int) * cpF (m : Int) = pe) := ⟨_, hcb, IntWalk.wrap64_in _ (by omega), IntWalk.i64_in _ (by omega), Lib.hid rfl⟩
      have HEND : Hid (dsm m m = pe) := Lib.hid (by rw [dsm_end m (by omega) hm, HPE.out])
      clear hin hcb hdb
      go_wp2_with fail
      refine (iDivisorSum_any _ _).mono ?_
      rintro e w2 ⟨rfl, hb⟩
      replace hA := hA.trans (hb.mono hA.size)
      clear hb
      go_wp2_with fail
      refine (sDivisorSum_any _ _).mono ?_
      rintro e w' ⟨rfl, rfl⟩
      go_wp2_with fail
      go_loopw [5, 6] (fun s i wr => Below w0.heap.size w0 wr ∧ ∃ j : Nat, j ≤ m ∧ i = .int .i64 ((j : Int) + 1) ∧ s = .int .i64 (dsm m j)) (fun _ i _ => 50 - (intOf i).toNat)
      case atStart => exact ⟨hA, 0, Nat.zero_le _, rfl, rfl⟩
      case round =>
        obtain ⟨hA, j, hj, rfl, rfl⟩ := hrel
        have hsb := dsm_bd m hm j hj
        by_cases hlt : j < m
        · have hlt' : (j : Int) + 1 ≤ (m : Int) := by omega
          have hdv := dv_bd (j + 1) (by omega) (by omega)
          have hpb := prod_bd2 (x := dvF ((j : Int) + 1)) (y := cpF ((m : Int) - ((j : Int) + 1))) (by have e0 : (j : Int) + 1 = ((j + 1 : Nat) : Int) := (by omega); rw [e0]; omega) (cp_bd _ (by omega) (by omega))
          have HS : Hid (dsm m (j + 1) = dsm m j + dvF ((j : Int) + 1) * cpF ((m : Int) - ((j : Int) + 1))) := Lib.hid rfl
          have hdm : 0 ≤ (m : Int) - ((j : Int) + 1) ∧ (m : Int) - ((j : Int) + 1) ≤ 40 := by omega
          clear g0 g1 e1 e2 hdv hlt
          go_wp2_with fail
          refine (iDivisorSum_any _ _).mono ?_
          rintro e w4 ⟨rfl, hb⟩
          replace hA := hA.trans (hb.mono hA.size)
          clear hb
          go_wp2_with fail
          refine (iCountParts_any _ _).mono ?_
          rintro e w5 ⟨rfl, hb⟩
          replace hA := hA.trans (hb.mono hA.size)
          clear hb
          obtain ⟨pr, hpr0, e1, e2, HPR⟩ : ∃ pr : Int, (0 ≤ pr ∧ pr ≤ 1099511627776000) ∧ wrap64 (dvF ((j : Int) + 1) * cpF ((m : Int) - ((j : Int) + 1))) = pr ∧ IntKind.i64.wrap (dvF ((j : Int) + 1) * cpF ((m : Int) - ((j : Int) + 1))) = pr ∧ Hid (dvF ((j : Int) + 1) * cpF ((m : Int) - ((j : Int) + 1)) = pr) := ⟨_, hpb, IntWalk.wrap64_in _ (by omega), IntWalk.i64_in _ (by omega), Lib.hid rfl⟩
          rw [HPR.out] at HS
          clear hpb
          go_wp2_with fail
          go_roundw
          case rel => exact ⟨hA, j + 1, by omega, by go_num, by rw [HS.out]⟩
          case measure => simp [intOf]; omega
        · obtain rfl : j = m := by omega
          have hlt'' : (j : Int) < (j : Int) + 1 := by omega
          rw [HEND.out]
          clear hlt hsb
          go_wp2_with fail
          refine (iCountParts_any _ _).mono ?_
          rintro e w5 ⟨rfl, hb⟩
          replace hA := hA.trans (hb.mono hA.size)
          clear hb
          go_wp2_with fail
          go_ret
          exact ⟨rfl, hA⟩
    · have hF : dvF n = -1 := by unfold dvF; rw [if_neg hin]
      have g0 : decide (dvF n < 0) = true := decide_eq_true (by rw [hF]; omega)
      clear hin hF
      go_wp2_with fail
      refine (iDivisorSum_any _ _).mono ?_
      rintro e w2 ⟨rfl, hb⟩
      replace hA := hA.trans (hb.mono hA.size)
      clear hb
      go_wp2_with fail
      refine (sDivisorSum_any _ _).mono ?_
      rintro e w' ⟨rfl, rfl⟩
      go_wp2_with fail
      refine (sDivisorSum_any _ _).mono ?_
      rintro e w' ⟨rfl, rfl⟩
      go_wp2_with fail
      go_ret
      exact ⟨rfl, hA⟩
  · have hl' : 1048576 < bs.length := by omega
    go_enter Try.func12, Try.ntmps12
    go_wp2_with fail
    go_ret
    exact ⟨rfl, Below.refl _ _⟩

theorem own : ownKnob Try.prog.godebug = none := by kernel_rfl
theorem laidOut : laidOutB Try.prog = true := by kernel_rfl

set_option maxRecDepth 100000 in
theorem lifted (os : Os) (started : os.Started) (H : Type) (enc : TypeId × Value → H) :
    ReturnsInHanded {} Try.checked os 12 .any (Rows.fnDivisorSumSpec.pre6 enc Try.prog Try.f12 Rows.fnDivisorSumRow.domain false) (Rows.fnDivisorSumSpec.post enc Try.prog Try.f12 false true false false) := by
  refine returnsInHanded_of_change (C := Try.checked) own started (by kernel_rfl) Try.func12
    (ChangeSpec.witness6 (enc := enc) (C := Try.checked) false ⟨#[], #[.slice none 0 0], []⟩ 8 (by kernel_rfl) (by kernel_rfl) (by kernel_rfl) (by kernel_rfl)) ?_
  intro W base args ds gs before hval0 hW hcnd _
  have hval : ∀ (j : Nat) t v, Try.f12.params[j]? = some t → args[j]? = some v → Value.okWide Try.prog W .any base t v := hval0
  have hW' := hW
  obtain ⟨p, q, hA0, hV, rfl, hfz, hnd⟩ := hW
  have hA : DataW.TrodAll enc Try.prog W 0 (fun _ => true) true Try.f12.params.toList args.toList ds p := hA0
  rw [Try.params12] at hA hval
  obtain ⟨v0, vs0, d0, ds0, p0, q0, hargs, rfl, rfl, h0, r0⟩ := trodAll_cons hA
  obtain ⟨rfl, rfl, rfl⟩ := trodAll_nil r0
  obtain rfl : args = #[v0] := by cases args; simp_all
  obtain ⟨rfl, rfl⟩ := trodVars_none hV
  obtain ⟨a0, len0, cap0, rfl⟩ := okWide_slice Try.underlying24 (hval 0 24 v0 rfl rfl)
  have k0 := h0
  have lt0 : ∀ x ∈ p0, x.block < W.heap.size := by obtain ⟨m, hm⟩ := k0; exact DataW.trod_lt m _ _ _ hm
  obtain ⟨z0, w0⟩ : ∃ zs, IsRow .u8 W a0 len0 cap0 zs := by
    obtain ⟨fuel, hf⟩ := h0
    rcases open_ints Try.underlying24 Try.underlying5 (by kernel_rfl) hf with ⟨hcs, _⟩ | ⟨x, l, c, zs, hcs, _, hl, hm, hz, _, hcell, hwz⟩
    · simp [Value.cells] at hcs
      obtain ⟨rfl, rfl, rfl⟩ := hcs
      exact ⟨[], .inl ⟨rfl, rfl, rfl, rfl⟩⟩
    · simp [Value.cells] at hcs
      obtain ⟨rfl, rfl, rfl⟩ := hcs
      exact ⟨zs, .inr ⟨_, rfl, hl, hm, by simpa using hz, hcell, hwz⟩⟩
  have lc0 := w0.lc
  obtain ⟨L0, rfl, R0, wf0, m0⟩ := w0.rd
  clear hA0 hval0
  refine (walk a0 cap0 L0 W R0 wf0 m0 (by simpa using lc0)).mono fun e W' ⟨he, bel⟩ => ?_
  subst he
  exact ⟨_, rfl, _, _, _, [], _, [], hW', trodAll_mk1 (shut_bool Try.underlying4 _), (trodAll_cons_mk (Below.trod laidOut (by kernel_rfl) (of_decide_eq_true (by kernel_rfl)) k0 bel lt0) trodAll_mk0), rfl, bel.frame _, fun h => by cases h⟩

theorem over : Rows.fnDivisorSumRow.holds Try.pinned (OpenSpec.ofChange Rows.fnDivisorSumSpec) :=
  OpenClaim.holds_of_wide 12 Try.f12 rfl rfl rfl rfl rfl rfl rfl ⟨rfl, rfl, rfl, rfl, rfl⟩ rfl rfl rfl rfl rfl (by kernel_rfl) Try.func12 (by kernel_rfl)
    (of_decide_eq_true (by kernel_rfl)) (by unfold Func.isWrapper; first | (rw [if_pos (by decide +kernel)]; kernel_rfl) | (rw [if_neg (by decide +kernel)]; exact ⟨rfl, rfl⟩))
    (fun os started H enc _ => lifted os started H enc)

/-- the given statement -/
theorem proved : Rows.FnDivisorSumSaid := over
end Go.Proofs.Ytmdalnkjpbjcdaa.fnDivisorSum
