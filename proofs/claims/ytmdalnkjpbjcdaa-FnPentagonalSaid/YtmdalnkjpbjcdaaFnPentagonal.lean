/-
  'laws.FnPentagonal' returns true for every code, and the code reads as it did. No condition.
-/
import Derived.Test.YtmdalnkjpbjcdaaRows
import Derived.Test.YtmdalnkjpbjcdaaC5
import Derived.Test.YtmdalnkjpbjcdaaM13
import Derived.WalkKit
import Derived.ProofKit
import Derived.OpenShut
import Derived.ShutString
import Derived.ChangeOld
import Derived.Below
namespace Go.Proofs.Ytmdalnkjpbjcdaa.fnPentagonal
open Go.ChangeShapes Go.WideShapes Go.ChangeAt Go.RowKit NP
open Go.ChangeMaps (open_string shut_string)
set_option linter.unusedVariables false

set_option maxHeartbeats 800000 in
theorem walk (a : Option Addr) (c : Nat) (bs : List Int) (w0 : World) (h : Rd w0 w0.heap.size a (bs.map (Value.int .u8))) (hb : ∀ n ∈ bs, (Lit.int .u8 n).wf = true) (m : bs.length ≤ maxLen) (hc : bs.length ≤ c) :
    Calls Try.prog 11 #[.slice a bs.length c] w0 fun e w' => e = .returned (.bool true) ∧ Below w0.heap.size w0 w' := by
  unfold maxLen at m
  by_cases hl : bs.length ≤ 1048576
  · go_enter Try.func11, Try.ntmps11
    go_wp2_with fail
    refine (DrawPentagonal_any a c _ bs _ h (Nat.le_refl _) hb hl hc).mono ?_
    rintro e w1 ⟨n, rfl, hn, hA⟩
    clear h hb hl hc m
    by_cases hin : -100 ≤ n ∧ n ≤ 100
    · have hpn : pnF n = n * (3 * n - 1) / 2 := by unfold pnF; rw [if_pos hin]
      have hb := pn_bd n hin.1 hin.2
      obtain ⟨q, hq0, e1, e2, HQ⟩ : ∃ q : Int, (0 ≤ q ∧ q ≤ 30100) ∧ wrap64 (n * (3 * n - 1)) = q ∧ IntKind.i64.wrap (n * (3 * n - 1)) = q ∧ Hid (n * (3 * n - 1) = q) := ⟨_, hb, IntWalk.wrap64_in _ (by omega), IntWalk.i64_in _ (by omega), Lib.hid rfl⟩
      have hp0 : 0 ≤ pnF n ∧ pnF n ≤ 30100 := by rw [hpn]; omega
      have g0 : decide (pnF n < 0) = false := decide_eq_false (by omega)
      have e3 : (pnF n == q / 2) = true := beq_iff_eq.2 (by rw [hpn, HQ.out])
      obtain ⟨h1, h2⟩ := hin
      have hsg := pn_sign n h1 h2
      by_cases hbig : pnF n ≤ 40
      · have g1 : decide (40 < pnF n) = false := decide_eq_false (by omega)
        have hs := hsg hbig
        by_cases hev : n.tmod 2 = 0
        · have b0 : (n.tmod 2 == 0) = true := beq_iff_eq.2 hev
          rw [if_pos hev] at hs
          have e4 : (sdF (pnF n) == 1) = true := beq_iff_eq.2 hs
          clear hsg hs hev hbig hpn hb
          go_wp2_with fail
          refine (iPentagonal_any _ _).mono ?_
          rintro e w2 ⟨rfl, hb⟩
          replace hA := hA.trans (hb.mono hA.size)
          clear hb
          go_wp2_with fail
          refine (sPentagonal_any _ _).mono ?_
          rintro e w' ⟨rfl, rfl⟩
          go_wp2_with fail
          refine (iSignedDistinct_any _ _).mono ?_
          rintro e w3 ⟨rfl, hb⟩
          replace hA := hA.trans (hb.mono hA.size)
          clear hb
          go_wp2_with fail
          go_ret
          exact ⟨rfl, hA⟩
        · have b0 : (n.tmod 2 == 0) = false := beq_eq_false_iff_ne.2 hev
          rw [if_neg hev] at hs
          have e4 : (sdF (pnF n) == -1) = true := beq_iff_eq.2 hs
          clear hsg hs hev hbig hpn hb
          go_wp2_with fail
          refine (iPentagonal_any _ _).mono ?_
          rintro e w2 ⟨rfl, hb⟩
          replace hA := hA.trans (hb.mono hA.size)
          clear hb
          go_wp2_with fail
          refine (sPentagonal_any _ _).mono ?_
          rintro e w' ⟨rfl, rfl⟩
          go_wp2_with fail
          refine (iSignedDistinct_any _ _).mono ?_
          rintro e w3 ⟨rfl, hb⟩
          replace hA := hA.trans (hb.mono hA.size)
          clear hb
          go_wp2_with fail
          go_ret
          exact ⟨rfl, hA⟩
      · have g1 : decide (40 < pnF n) = true := decide_eq_true (by omega)
        by_cases hev : n.tmod 2 = 0
        · have b0 : (n.tmod 2 == 0) = true := beq_iff_eq.2 hev
          clear hsg hev hbig hpn hb
          go_wp2_with fail
          refine (iPentagonal_any _ _).mono ?_
          rintro e w2 ⟨rfl, hb⟩
          replace hA := hA.trans (hb.mono hA.size)
          clear hb
          go_wp2_with fail
          refine (sPentagonal_any _ _).mono ?_
          rintro e w' ⟨rfl, rfl⟩
          go_wp2_with fail
          go_ret
          exact ⟨rfl, hA⟩
        · have b0 : (n.tmod 2 == 0) = false := beq_eq_false_iff_ne.2 hev
          clear hsg hev hbig hpn hb
          go_wp2_with fail
          refine (iPentagonal_any _ _).mono ?_
          rintro e w2 ⟨rfl, hb⟩
          replace hA := hA.trans (hb.mono hA.size)
          clear hb
          go_wp2_with fail
          refine (sPentagonal_any _ _).mono ?_
          rintro e w' ⟨rfl, rfl⟩
          go_wp2_with fail
          go_ret
          exact ⟨rfl, hA⟩
    · have hF : pnF n = -1 := by unfold pnF; rw [if_neg hin]
      have g0 : decide (pnF n < 0) = true := decide_eq_true (by rw [hF]; omega)
      clear hin hF
      go_wp2_with fail
      refine (iPentagonal_any _ _).mono ?_
      rintro e w2 ⟨rfl, hb⟩
      replace hA := hA.trans (hb.mono hA.size)
      clear hb
      go_wp2_with fail
      refine (sPentagonal_any _ _).mono ?_
      rintro e w' ⟨rfl, rfl⟩
      go_wp2_with fail
      refine (sPentagonal_any _ _).mono ?_
      rintro e w' ⟨rfl, rfl⟩
      go_wp2_with fail
      go_ret
      exact ⟨rfl, hA⟩
  · have hl' : 1048576 < bs.length := by omega
    go_enter Try.func11, Try.ntmps11
    go_wp2_with fail
    go_ret
    exact ⟨rfl, Below.refl _ _⟩

theorem own : ownKnob Try.prog.godebug = none := by kernel_rfl
theorem laidOut : laidOutB Try.prog = true := by kernel_rfl

set_option maxRecDepth 100000 in
theorem lifted (os : Os) (started : os.Started) (H : Type) (enc : TypeId × Value → H) :
    ReturnsInHanded {} Try.checked os 11 .any (Rows.fnPentagonalSpec.pre6 enc Try.prog Try.f11 Rows.fnPentagonalRow.domain false) (Rows.fnPentagonalSpec.post enc Try.prog Try.f11 false true false false) := by
  refine returnsInHanded_of_change (C := Try.checked) own started (by kernel_rfl) Try.func11
    (ChangeSpec.witness6 (enc := enc) (C := Try.checked) false ⟨#[], #[.slice none 0 0], []⟩ 8 (by kernel_rfl) (by kernel_rfl) (by kernel_rfl) (by kernel_rfl)) ?_
  intro W base args ds gs before hval0 hW hcnd _
  have hval : ∀ (j : Nat) t v, Try.f11.params[j]? = some t → args[j]? = some v → Value.okWide Try.prog W .any base t v := hval0
  have hW' := hW
  obtain ⟨p, q, hA0, hV, rfl, hfz, hnd⟩ := hW
  have hA : DataW.TrodAll enc Try.prog W 0 (fun _ => true) true Try.f11.params.toList args.toList ds p := hA0
  rw [Try.params11] at hA hval
  obtain ⟨v0, vs0, d0, ds0, p0, q0, hargs, rfl, rfl, h0, r0⟩ := trodAll_cons hA
  obtain ⟨rfl, rfl, rfl⟩ := trodAll_nil r0
  obtain rfl : args = #[v0] := by cases args; simp_all
  obtain ⟨rfl, rfl⟩ := trodVars_none hV
  obtain ⟨a0, len0, cap0, rfl⟩ := okWide_slice Try.underlying24 (hval 0 24 v0 rfl rfl)
  have k0 := h0
  have lt0 : ∀ x ∈ p0, x.block < W.heap.size := by obtain ⟨m, hm⟩ := k0; exact DataW.trod_lt m _ _ _ hm
  obtain ⟨z0, w0⟩ : ∃ zs, IsRow .u8 W a0 len0 cap0 zs := by
    obtain ⟨fuel, hf⟩ := h0
    rcases open_ints Try.underlying24 Try.underlying5 (by kernel_rfl) hf with ⟨hcs, _⟩ | ⟨x, l, c, zs, hcs, _, hl, hm, hz, _, hcell, hwz⟩
    · simp [Value.cells] at hcs
      obtain ⟨rfl, rfl, rfl⟩ := hcs
      exact ⟨[], .inl ⟨rfl, rfl, rfl, rfl⟩⟩
    · simp [Value.cells] at hcs
      obtain ⟨rfl, rfl, rfl⟩ := hcs
      exact ⟨zs, .inr ⟨_, rfl, hl, hm, by simpa using hz, hcell, hwz⟩⟩
  have lc0 := w0.lc
  obtain ⟨L0, rfl, R0, wf0, m0⟩ := w0.rd
  clear hA0 hval0
  refine (walk a0 cap0 L0 W R0 wf0 m0 (by simpa using lc0)).mono fun e W' ⟨he, bel⟩ => ?_
  subst he
  exact ⟨_, rfl, _, _, _, [], _, [], hW', trodAll_mk1 (shut_bool Try.underlying4 _), (trodAll_cons_mk (Below.trod laidOut (by kernel_rfl) (of_decide_eq_true (by kernel_rfl)) k0 bel lt0) trodAll_mk0), rfl, bel.frame _, fun h => by cases h⟩

theorem over : Rows.fnPentagonalRow.holds Try.pinned (OpenSpec.ofChange Rows.fnPentagonalSpec) :=
  OpenClaim.holds_of_wide 11 Try.f11 rfl rfl rfl rfl rfl rfl rfl ⟨rfl, rfl, rfl, rfl, rfl⟩ rfl rfl rfl rfl rfl (by kernel_rfl) Try.func11 (by kernel_rfl)
    (of_decide_eq_true (by kernel_rfl)) (by unfold Func.isWrapper; first | (rw [if_pos (by decide +kernel)]; kernel_rfl) | (rw [if_neg (by decide +kernel)]; exact ⟨rfl, rfl⟩))
    (fun os started H enc _ => lifted os started H enc)

/-- the given statement -/
theorem proved : Rows.FnPentagonalSaid := over
end Go.Proofs.Ytmdalnkjpbjcdaa.fnPentagonal
