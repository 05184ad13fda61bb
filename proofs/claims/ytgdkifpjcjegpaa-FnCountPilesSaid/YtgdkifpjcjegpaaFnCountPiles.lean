/-
  'laws.FnCountPiles' returns true for every code, and the code reads as it did. No condition.
-/
import Derived.Test.YtgdkifpjcjegpaaRows
import Derived.Test.YtgdkifpjcjegpaaW85
import Derived.Test.YtgdkifpjcjegpaaD20
import Derived.Test.YtgdkifpjcjegpaaM42
import Derived.WalkKit
import Derived.ProofKit
import Derived.OpenShut
import Derived.ShutString
import Derived.ChangeOld
import Derived.Below
namespace Go.Proofs.Ytgdkifpjcjegpaa.fnCountPiles
open Go.ChangeShapes Go.WideShapes Go.ChangeAt Go.RowKit NP
open Go.ChangeMaps (open_string shut_string)
set_option linter.unusedVariables false

set_option maxHeartbeats 1600000 in
theorem walk (a : Option Addr) (c : Nat) (bs : List Int) (w0 : World) (h : Rd w0 w0.heap.size a (bs.map (Value.int .u8))) (hb : ∀ n ∈ bs, (Lit.int .u8 n).wf = true) (m : bs.length ≤ maxLen) (hc : bs.length ≤ c) :
    Calls Try.prog 8 #[.slice a bs.length c] w0 fun e w' => e = .returned (.bool true) ∧ Below w0.heap.size w0 w' := by
  unfold maxLen at m
  by_cases hl : bs.length ≤ 1048576
  · go_enter Try.func8, Try.ntmps8
    go_wp2_with fail
    refine (DrawCountPiles_any a c _ bs _ h (Nat.le_refl _) hb hl hc).mono ?_
    rintro e w1 ⟨n, rfl, hn, hA⟩
    clear h hb hl hc m
    by_cases hin : 0 ≤ n ∧ n ≤ 16
    · obtain ⟨m, rfl⟩ := Int.eq_ofNat_of_zero_le hin.1
      have hm : m ≤ 16 := by omega
      obtain ⟨l0, l1, l2, l3⟩ := pl_law m (by omega)
      rw [← plF_val hm] at l0 l1 l2 l3
      rw [← cp_tab m (by omega)] at l1 l3
      have g0 : decide (plF (m : Int) < 0) = false := decide_eq_false (by omega)
      have g1 : decide (cpF (m : Int) ≤ plF (m : Int)) = true := decide_eq_true l1
      by_cases hz : m = 0
      · subst hz
        have g0' : decide (plF 0 < 0) = false := g0
        have g1' : decide (cpF 0 ≤ plF 0) = true := g1
        clear hin l0 l1 l2 l3 g0 g1
        go_wp2_with fail
        refine (iCountPiles_any _ _).mono ?_
        rintro e w2 ⟨rfl, hb⟩
        replace hA := hA.trans (hb.mono hA.size)
        clear hb
        go_wp2_with fail
        refine (sCountPiles_any _ _).mono ?_
        rintro e w3 ⟨rfl, hb⟩
        replace hA := hA.trans (hb.mono hA.size)
        clear hb
        go_wp2_with fail
        refine (iCountParts_any _ _).mono ?_
        rintro e w4 ⟨rfl, hb⟩
        replace hA := hA.trans (hb.mono hA.size)
        clear hb
        go_wp2_with fail
        go_ret
        exact ⟨rfl, hA⟩
      · have b0 : ((m : Int) == 0) = false := beq_eq_false_iff_ne.2 (by omega)
        have hmm : (m : Int) - 1 = ((m - 1 : Nat) : Int) := by omega
        rw [← plF_val (n := m - 1) (by omega), ← hmm] at l2
        have g2 : decide (plF ((m : Int) - 1) ≤ plF (m : Int)) = true := decide_eq_true l2
        have hm1 : 1 ≤ m := by omega
        by_cases h2 : m < 2
        · have b1 : decide ((m : Int) < 2) = true := decide_eq_true (by omega)
          clear hin l0 l1 l2 l3 hz hmm
          go_wp2_with fail
          refine (iCountPiles_any _ _).mono ?_
          rintro e w2 ⟨rfl, hb⟩
          replace hA := hA.trans (hb.mono hA.size)
          clear hb
          go_wp2_with fail
          refine (sCountPiles_any _ _).mono ?_
          rintro e w3 ⟨rfl, hb⟩
          replace hA := hA.trans (hb.mono hA.size)
          clear hb
          go_wp2_with fail
          refine (iCountParts_any _ _).mono ?_
          rintro e w4 ⟨rfl, hb⟩
          replace hA := hA.trans (hb.mono hA.size)
          clear hb
          go_wp2_with fail
          refine (iCountPiles_any _ _).mono ?_
          rintro e w5 ⟨rfl, hb⟩
          replace hA := hA.trans (hb.mono hA.size)
          clear hb
          go_wp2_with fail
          go_ret
          exact ⟨rfl, hA⟩
        · have b1 : decide ((m : Int) < 2) = false := decide_eq_false (by omega)
          have g3 : decide (cpF (m : Int) < plF (m : Int)) = true := decide_eq_true (l3 (by omega))
          clear hin l0 l1 l2 l3 hz hmm
          go_wp2_with fail
          refine (iCountPiles_any _ _).mono ?_
          rintro e w2 ⟨rfl, hb⟩
          replace hA := hA.trans (hb.mono hA.size)
          clear hb
          go_wp2_with fail
          refine (sCountPiles_any _ _).mono ?_
          rintro e w3 ⟨rfl, hb⟩
          replace hA := hA.trans (hb.mono hA.size)
          clear hb
          go_wp2_with fail
          refine (iCountParts_any _ _).mono ?_
          rintro e w4 ⟨rfl, hb⟩
          replace hA := hA.trans (hb.mono hA.size)
          clear hb
          go_wp2_with fail
          refine (iCountPiles_any _ _).mono ?_
          rintro e w5 ⟨rfl, hb⟩
          replace hA := hA.trans (hb.mono hA.size)
          clear hb
          go_wp2_with fail
          refine (iCountParts_any _ _).mono ?_
          rintro e w6 ⟨rfl, hb⟩
          replace hA := hA.trans (hb.mono hA.size)
          clear hb
          go_wp2_with fail
          go_ret
          exact ⟨rfl, hA⟩
    · have hF : plF n = -1 := by unfold plF; rw [if_neg hin]
      have HF := Lib.hid hF
      clear hin hF
      go_wp2_with fail
      refine (iCountPiles_any _ _).mono ?_
      rintro e w2 ⟨rfl, hb⟩
      replace hA := hA.trans (hb.mono hA.size)
      clear hb
      rw [HF.out]
      go_wp2_with fail
      refine (sCountPiles_any _ _).mono ?_
      rintro e w3 ⟨rfl, hb⟩
      replace hA := hA.trans (hb.mono hA.size)
      clear hb
      rw [HF.out]
      go_wp2_with fail
      refine (sCountPiles_any _ _).mono ?_
      rintro e w4 ⟨rfl, hb⟩
      replace hA := hA.trans (hb.mono hA.size)
      clear hb
      rw [HF.out]
      go_wp2_with fail
      go_ret
      exact ⟨rfl, hA⟩
  · have hl' : 1048576 < bs.length := by omega
    go_enter Try.func8, Try.ntmps8
    go_wp2_with fail
    go_ret
    exact ⟨rfl, Below.refl _ _⟩

theorem own : ownKnob Try.prog.godebug = none := by kernel_rfl
theorem laidOut : laidOutB Try.prog = true := by kernel_rfl

set_option maxRecDepth 100000 in
theorem lifted (os : Os) (started : os.Started) (H : Type) (enc : TypeId × Value → H) :
    ReturnsInHanded {} Try.checked os 8 .any (Rows.fnCountPilesSpec.pre6 enc Try.prog Try.f8 Rows.fnCountPilesRow.domain false) (Rows.fnCountPilesSpec.post enc Try.prog Try.f8 false true false false) := by
  refine returnsInHanded_of_change (C := Try.checked) own started (by kernel_rfl) Try.func8
    (ChangeSpec.witness6 (enc := enc) (C := Try.checked) false ⟨#[], #[.slice none 0 0], []⟩ 8 (by kernel_rfl) (by kernel_rfl) (by kernel_rfl) (by kernel_rfl)) ?_
  intro W base args ds gs before hval0 hW hcnd _
  have hval : ∀ (j : Nat) t v, Try.f8.params[j]? = some t → args[j]? = some v → Value.okWide Try.prog W .any base t v := hval0
  have hW' := hW
  obtain ⟨p, q, hA0, hV, rfl, hfz, hnd⟩ := hW
  have hA : DataW.TrodAll enc Try.prog W 0 (fun _ => true) true Try.f8.params.toList args.toList ds p := hA0
  rw [Try.params8] at hA hval
  obtain ⟨v0, vs0, d0, ds0, p0, q0, hargs, rfl, rfl, h0, r0⟩ := trodAll_cons hA
  obtain ⟨rfl, rfl, rfl⟩ := trodAll_nil r0
  obtain rfl : args = #[v0] := by cases args; simp_all
  obtain ⟨rfl, rfl⟩ := trodVars_none hV
  obtain ⟨a0, len0, cap0, rfl⟩ := okWide_slice Try.underlying24 (hval 0 24 v0 rfl rfl)
  have k0 := h0
  have lt0 : ∀ x ∈ p0, x.block < W.heap.size := by obtain ⟨m, hm⟩ := k0; exact DataW.trod_lt m _ _ _ hm
  obtain ⟨z0, w0⟩ : ∃ zs, IsRow .u8 W a0 len0 cap0 zs := by
    obtain ⟨fuel, hf⟩ := h0
    rcases open_ints Try.underlying24 Try.underlying5 (by kernel_rfl) hf with ⟨hcs, _⟩ | ⟨x, l, c, zs, hcs, _, hl, hm, hz, _, hcell, hwz⟩
    · simp [Value.cells] at hcs
      obtain ⟨rfl, rfl, rfl⟩ := hcs
      exact ⟨[], .inl ⟨rfl, rfl, rfl, rfl⟩⟩
    · simp [Value.cells] at hcs
      obtain ⟨rfl, rfl, rfl⟩ := hcs
      exact ⟨zs, .inr ⟨_, rfl, hl, hm, by simpa using hz, hcell, hwz⟩⟩
  have lc0 := w0.lc
  obtain ⟨L0, rfl, R0, wf0, m0⟩ := w0.rd
  clear hA0 hval0
  refine (walk a0 cap0 L0 W R0 wf0 m0 (by simpa using lc0)).mono fun e W' ⟨he, bel⟩ => ?_
  subst he
  exact ⟨_, rfl, _, _, _, [], _, [], hW', trodAll_mk1 (shut_bool Try.underlying4 _), (trodAll_cons_mk (Below.trod laidOut (by kernel_rfl) (of_decide_eq_true (by kernel_rfl)) k0 bel lt0) trodAll_mk0), rfl, bel.frame _, fun h => by cases h⟩

theorem over : Rows.fnCountPilesRow.holds Try.pinned (OpenSpec.ofChange Rows.fnCountPilesSpec) :=
  OpenClaim.holds_of_wide 8 Try.f8 rfl rfl rfl rfl rfl rfl rfl ⟨rfl, rfl, rfl, rfl, rfl⟩ rfl rfl rfl rfl rfl (by kernel_rfl) Try.func8 (by kernel_rfl)
    (of_decide_eq_true (by kernel_rfl)) (by unfold Func.isWrapper; first | (rw [if_pos (by decide +kernel)]; kernel_rfl) | (rw [if_neg (by decide +kernel)]; exact ⟨rfl, rfl⟩))
    (fun os started H enc _ => lifted os started H enc)

/-- the given statement -/
theorem proved : Rows.FnCountPilesSaid := over
end Go.Proofs.Ytgdkifpjcjegpaa.fnCountPiles
