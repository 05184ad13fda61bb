/-
  'laws.FnKindCount' returns true for every input, and the input reads as it did; the table of partners holds what the program's text lays.
-/
import Derived.Test.YtmlomapifldlpaaDoorRows
import Derived.Test.YtmlomapifldlpaaDoorZA1
import Derived.Test.YtmlomapifldlpaaDoorZA2
import Derived.Test.YtmlomapifldlpaaDoorZA3
import Derived.Test.YtmlomapifldlpaaDoorZA4
import Derived.Test.YtmlomapifldlpaaDoorZA5
import Derived.Test.YtmlomapifldlpaaDoorZA6
import Derived.Test.YtmlomapifldlpaaDoorZA7
import Derived.Test.YtmlomapifldlpaaDoorCards
import Derived.Test.YtmlomapifldlpaaDoorTie
import Derived.SevenTiedAt
import Derived.WalkKit
import Derived.ProofKit
import Derived.OpenShut
import Derived.ShutString
import Derived.ChangeOld
import Derived.Below
namespace Go.Proofs.YtmlomapifldlpaaDoor.fnKindCount
open Go.ChangeShapes Go.WideShapes Go.ChangeAt Go.RowKit NP
open Go.ChangeMaps (open_string shut_string)
set_option linter.unusedVariables false
theorem rangeAt_below {w w' : World} {cs : List Value} (h : w.rangeAt 0 0 cs) (hb : Below w.heap.size w w') : w'.rangeAt 0 0 cs := fun j v hj => by
  have h1 := h j v hj
  exact (hb.cell (p := ⟨0, 0 + j, none⟩) (World.block_lt_of_cell? w ⟨0, 0 + j, none⟩ h1)).trans h1
theorem pn_names : ∀ s ∈ names12, pnF s.data.toList ≠ [] ∧ pnF (pnF s.data.toList) = s.data.toList ∧ pnF s.data.toList ≠ s.data.toList := by decide
theorem pn_names3 : ∀ s ∈ names3, pnF s.data.toList = [] := by decide
theorem pnS_list (s : ByteArray) : (pnS s).data.toList = pnF s.data.toList := rfl
theorem pn_some {s : ByteArray} (h : s ∈ names12) : (pnS s).data.toList ≠ [] ∧ pnS (pnS s) = s ∧ (pnS s).data.toList ≠ s.data.toList := by
  obtain ⟨h1, h2, h3⟩ := pn_names s h
  refine ⟨h1, ?_, h3⟩
  have e : pnS (pnS s) = ⟨(pnF (pnF s.data.toList)).toArray⟩ := rfl
  rw [e, h2]

theorem pn_mem : ∀ s ∈ names12, s.data.toList ∈ nmL ∧ (pnF s.data.toList).length ≤ 11 := by decide

set_option maxHeartbeats 1600000 in
theorem walk (a : Option Addr) (c : Nat) (bs : List Int) (w0 : World) (h : Rd w0 w0.heap.size a (bs.map (Value.int .u8))) (hb : ∀ n ∈ bs, (Lit.int .u8 n).wf = true) (m : bs.length ≤ maxLen) (hc : bs.length ≤ c) (hG : w0.rangeAt 0 0 pnCells) :
    Calls Tryd.prog 5 #[.slice a bs.length c] w0 fun e w' => e = .returned (.bool true) ∧ Below w0.heap.size w0 w' := by
  unfold maxLen at m
  by_cases hl : bs.length ≤ 1048576
  · go_enter Tryd.func5, Tryd.ntmps5
    go_wp2_with fail
    refine (DrawKindCount_any a c _ bs _ h (Nat.le_refl _) hb hl hc).mono ?_
    rintro e w1 ⟨s, n, rfl, hs, hn, hA⟩
    have hsm := hs.small
    have hsz : s.size ≤ 1048576 := Nat.le_trans hsm (by omega)
    have hsl : s.size ≤ maxLen := Nat.le_trans hsm (by unfold maxLen; omega)
    have hz0 := hA.size
    have hG1 := rangeAt_below hG hA
    clear h hb hl hc m hn hsm
    go_wp2_with fail
    refine (iKindCount_any s hsl n _).mono ?_
    rintro e w2 ⟨rfl, hb2⟩
    have hG2 := rangeAt_below hG1 hb2
    have hA2 := hA.trans (hb2.mono hz0)
    have hz2 := hA2.size
    go_wp2_with fail
    refine (sKindCount_any s n _).mono ?_
    rintro e w3 ⟨rfl, hb3⟩
    have hG3 := rangeAt_below hG2 hb3
    have hA3 := hA2.trans (hb3.mono hz2)
    have hz3 := hA3.size
    by_cases hk : 0 ≤ kcF s.data.toList n
    · have hs12 : s ∈ names12 := by
        rcases hs with hs | hs
        · exfalso
          have : ∀ s ∈ names3, kindOf s.data.toList = none := by decide
          have h1 := this s hs
          unfold kcF kpOk at hk
          rw [h1] at hk
          simp at hk
        · exact hs
      have hmem := pn_mem s hs12
      have HP : Hid (kcF (pnS s).data.toList n = kcF s.data.toList n) := Lib.hid (kc_partner hmem.1 hk)
      have hc1 := kc_count hk
      have hts : (pnS s).size ≤ maxLen := by
        have h2 : (pnS s).size = (pnF s.data.toList).length := rfl
        unfold maxLen
        omega
      obtain ⟨q, hq⟩ : ∃ q, kcF s.data.toList n = q := ⟨_, rfl⟩
      rw [hq] at HP hk hc1 ⊢
      obtain ⟨t, ht⟩ : ∃ t, pnS s = t := ⟨_, rfl⟩
      rw [ht] at HP hts
      have HT := Lib.hid ht
      have hnn : ¬ q < 0 := by omega
      clear hq ht hs hs12 hmem hk
      go_wp2_with fail
      refine (iPartnerOf_any s hsz _ hG3).mono ?_
      rintro e w4 ⟨rfl, hb4⟩
      rw [HT.out]
      have hA4 := hA3.trans (hb4.mono hz3)
      have hz4 := hA4.size
      go_wp2_with fail
      refine (iKindCount_any t hts n _).mono ?_
      rintro e w5 ⟨rfl, hb5⟩
      rw [HP.out]
      have hA5 := hA4.trans (hb5.mono hz4)
      have hz5 := hA5.size
      go_wp2_with fail
      refine (iCountParts_any n _).mono ?_
      rintro e w6 ⟨rfl, hb6⟩
      go_wp2_with fail
      go_ret
      exact ⟨rfl, hA5.trans (hb6.mono hz5)⟩
    · have hnn : kcF s.data.toList n < 0 := by omega
      obtain ⟨q, hq⟩ : ∃ q, kcF s.data.toList n = q := ⟨_, rfl⟩
      rw [hq] at hnn ⊢
      have HQ := Lib.hid hq
      clear hk hq hs
      go_wp2_with fail
      refine (sKindCount_any s n _).mono ?_
      rintro e w4 ⟨rfl, hb4⟩
      rw [HQ.out]
      go_wp2_with fail
      go_ret
      exact ⟨rfl, hA3.trans (hb4.mono hz3)⟩
  · have hl' : 1048576 < bs.length := by omega
    go_enter Tryd.func5, Tryd.ntmps5
    go_wp2_with fail
    go_ret
    exact ⟨rfl, Below.refl _ _⟩

theorem own : ownKnob Tryd.prog.godebug = none := by kernel_rfl
theorem laidOut : laidOutB Tryd.prog = true := by kernel_rfl

set_option maxRecDepth 100000 in
theorem lifted (os : Os) (started : os.Started) (H : Type) (enc : TypeId × Value → H) :
    ReturnsInHanded {} Tryd.checked os 5 .any (fun w args => (Rows.fnKindCountSpec.pre enc Tryd.prog Tryd.f5 [] false w args ∧ laidMetH Tryd.prog pnLaid w) ∧ sizedMet enc Tryd.prog Tryd.f5 (OpenSpec.ofChange Rows.fnKindCountSpec) false w args) (Rows.fnKindCountSpec.post enc Tryd.prog Tryd.f5 false true false false) := by
  refine returnsInHanded_of_change_and (C := Tryd.checked) (X := fun w _ => laidMetH Tryd.prog pnLaid w) (fun _ _ _ hh h => h.of_heap hh) own started (by kernel_rfl) Tryd.func5
    (ChangeSpec.witness_shaped (enc := enc) (C := Tryd.checked) (os := os) (X := fun w _ => laidMetH Tryd.prog pnLaid w) false (World.doorLaid Tryd.prog 400 os) #[.slice none 0 0] 8 rfl (World.shaped_of_RefB (by kernel_rfl) (by kernel_rfl)) (by kernel_rfl) (by kernel_rfl) (by kernel_rfl) (door_met os _)) ?_
  intro W base args ds gs before hval0 hW _ _ hL _
  have hval : ∀ (j : Nat) t v, Tryd.f5.params[j]? = some t → args[j]? = some v → Value.okWide Tryd.prog W .any base t v := hval0
  have hW' := hW
  obtain ⟨p, q, hA0, hV, rfl, hfz, hnd⟩ := hW
  have hA : DataW.TrodAll enc Tryd.prog W 0 (fun _ => true) true Tryd.f5.params.toList args.toList ds p := hA0
  have hV0 := hV
  rw [Tryd.params5] at hA hval
  obtain ⟨v0, vs0, d0, ds0, p0, q0, hargs, rfl, rfl, h0, r0⟩ := trodAll_cons hA
  obtain ⟨rfl, rfl, rfl⟩ := trodAll_nil r0
  obtain rfl : args = #[v0] := by cases args; simp_all
  obtain ⟨g1, t1, cs1, fl1, d1, p1, rfl, -, -, -, -, -⟩ := trodVars_one hV
  obtain ⟨a0, len0, cap0, rfl⟩ := okWide_slice Tryd.underlying24 (hval 0 24 v0 rfl rfl)
  have k0 := h0
  have lt0 : ∀ x ∈ p0, x.block < W.heap.size := by obtain ⟨m, hm⟩ := k0; exact DataW.trod_lt m _ _ _ hm
  obtain ⟨z0, w0⟩ : ∃ zs, IsRow .u8 W a0 len0 cap0 zs := by
    obtain ⟨fuel, hf⟩ := h0
    rcases open_ints Tryd.underlying24 Tryd.underlying5 (by kernel_rfl) hf with ⟨hcs, _⟩ | ⟨x, l, c, zs, hcs, _, hl, hm, hz, _, hcell, hwz⟩
    · simp [Value.cells] at hcs
      obtain ⟨rfl, rfl, rfl⟩ := hcs
      exact ⟨[], .inl ⟨rfl, rfl, rfl, rfl⟩⟩
    · simp [Value.cells] at hcs
      obtain ⟨rfl, rfl, rfl⟩ := hcs
      exact ⟨zs, .inr ⟨_, rfl, hl, hm, by simpa using hz, hcell, hwz⟩⟩
  have lc0 := w0.lc
  obtain ⟨L0, rfl, R0, wf0, m0⟩ := w0.rd
  clear hA0 hval0
  refine (walk a0 cap0 L0 W R0 wf0 m0 (by simpa using lc0) (of_laid hL)).mono fun e W' ⟨he, bel⟩ => ?_
  subst he
  exact ⟨_, rfl, _, _, _, [], _, _, hW', trodAll_mk1 (shut_bool Tryd.underlying4 _), (trodAll_cons_mk (Below.trod laidOut (by kernel_rfl) (of_decide_eq_true (by kernel_rfl)) k0 bel lt0) trodAll_mk0), Below.trodVars laidOut bel (by kernel_rfl) hV0, bel.frame _, fun h => by cases h⟩

theorem over : Rows.FnKindCountSaid :=
  OpenClaim.holds_of_wide 5 Tryd.f5 rfl rfl rfl rfl rfl rfl rfl ⟨rfl, rfl, rfl, rfl, rfl⟩ rfl rfl rfl rfl rfl (by kernel_rfl) Tryd.func5 (by kernel_rfl)
    (of_decide_eq_true (by kernel_rfl)) (by unfold Func.isWrapper; first | (rw [if_pos (by decide +kernel)]; kernel_rfl) | (rw [if_neg (by decide +kernel)]; exact ⟨rfl, rfl⟩))
    (fun os started H enc _ => lifted os started H enc)

/-- the given statement: the tied card -/
theorem proved : Rows.FnKindCountCardSaid :=
  Claim7.holds_tied_plain_at .later [] [.data] true Rows.fnKindCountCard.stood.harness false
    over (fun _ h => by cases h) (by kernel_rfl) (fun _ h => by cases h) fnKindCount_row_tie rfl ⟨rfl, rfl⟩ (by kernel_rfl) rfl
    (fun f fn hf hfn => by
      obtain rfl : f = 5 := Option.some.inj ((show Tryd.prog.funcNamed "loop.example/numberparts/laws.FnKindCount" = some 5 by kernel_rfl).symm.trans hf) |>.symm
      obtain rfl : fn = Tryd.f5 := (Option.some.inj (Tryd.func5.symm.trans hfn)).symm
      exact ⟨by kernel_rfl, fun j t ht => by
        rw [Tryd.params5] at ht
        have hm : t ∈ [24] := by simpa using Array.mem_of_getElem? ht
        have hall : ([24].all fun u => !Tryd.prog.wantsStandIn u) = true := by kernel_rfl
        exact (show Tryd.prog.wantsStandIn t = false by simpa using List.all_eq_true.1 hall t hm)⟩)
    (by kernel_rfl)
end Go.Proofs.YtmlomapifldlpaaDoor.fnKindCount
