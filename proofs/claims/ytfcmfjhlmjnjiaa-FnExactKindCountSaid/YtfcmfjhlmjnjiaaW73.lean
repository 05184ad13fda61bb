/-
  Walks of the model: the parts of a kind, as lists of the call's own.
-/
import Derived.Test.YtfcmfjhlmjnjiaaW62
import Derived.Test.YtfcmfjhlmjnjiaaW61
namespace Go.Proofs.Ytfcmfjhlmjnjiaa
open Go.RowKit NP
set_option linter.unusedVariables false
set_option linter.unusedSimpArgs false
/-- the parts of the kind of a name with a sum -/
def kpF (l : List UInt8) (n : Int) : List (List Int) := match kindOf l with
  | some K => if 0 ≤ n ∧ n ≤ 12 then (allQ n.toNat n.toNat n.toNat).filter K else []
  | none => []
def kpOk (l : List UInt8) (n : Int) : Bool := (kindOf l).isSome && decide (0 ≤ n) && decide (n ≤ 12)
def kcF (l : List UInt8) (n : Int) : Int := if kpOk l n = true then ((kpF l n).length : Int) else -1
theorem kpF_none {l : List UInt8} (h : kindOf l = none) (n : Int) : kpF l n = [] := by unfold kpF; rw [h]
theorem kpF_some {l : List UInt8} {K : List Int → Bool} (h : kindOf l = some K) {n : Nat} (hn : n ≤ 12) : kpF l (n : Int) = (allQ n n n).filter K := by
  unfold kpF; rw [h]; simp only; rw [if_pos (by omega), Int.toNat_natCast]
theorem kpF_out {l : List UInt8} {n : Int} (h : ¬ (0 ≤ n ∧ n ≤ 12)) : kpF l n = [] := by
  unfold kpF
  split
  · rw [if_neg h]
  · rfl
theorem kcF_none {l : List UInt8} (h : kindOf l = none) (n : Int) : kcF l n = -1 := by unfold kcF kpOk; rw [h]; rfl
theorem kcF_out {l : List UInt8} {n : Int} (h : ¬ (0 ≤ n ∧ n ≤ 12)) : kcF l n = -1 := by
  unfold kcF
  rw [if_neg]
  unfold kpOk
  intro hh
  simp at hh
  exact h ⟨hh.1.2, hh.2⟩
theorem kcF_some {l : List UInt8} {K : List Int → Bool} (h : kindOf l = some K) {n : Nat} (hn : n ≤ 12) : kcF l (n : Int) = ((kpF l (n : Int)).length : Int) := by
  unfold kcF
  rw [if_pos]
  unfold kpOk
  rw [h]
  simp; omega
theorem filter_len {l : List UInt8} {K : List Int → Bool} (h : kindOf l = some K) {n : Nat} (hn : n ≤ 12) : (kpF l (n : Int)).length ≤ 1000 := by
  rw [kpF_some h hn]
  exact Nat.le_trans (List.length_filter_le _ _) (allQ_len (by omega))
set_option maxHeartbeats 4000000 in
theorem kindList_ll (s : ByteArray) (K : List Int → Bool) (hSK : SK s K) (n : Nat) (hn : n ≤ 12) (w : World) :
    Calls Try.prog 32 #[.string s, .int .i64 (n : Int)] w fun e w' => ∃ (a' : Option Addr) (c' : Nat) (us : List Value), e = .returned (.slice a' ((allQ n n n).filter K).length c') ∧ OwnLL w' w.heap.size w'.heap.size 32 3 (.slice a' ((allQ n n n).filter K).length c') us ((allQ n n n).filter K) ∧ Below w.heap.size w w' := by
  obtain ⟨i0, hi, hz0, hz1, hz2⟩ := T_int'
  obtain ⟨i1, hj, hy0, hy1, hy2⟩ := T_ints'
  have hE := OwnLL.empty w 32 3
  obtain ⟨w1, hw1⟩ : ∃ w1, w1 = w.alloc (.cells #[] 32) := ⟨_, rfl⟩
  have hb1 : Below w.heap.size w w1 := hw1 ▸ (Below.refl _ _).alloc (Nat.le_refl _) _
  have hz1' : w1.heap.size = w.heap.size + 1 := by rw [hw1, World.size_alloc]
  have HW1 := Lib.hid hw1
  have HZ1 := Lib.hid hz1'
  rw [← hw1] at hE
  clear hw1 hz1'
  have HZ2 : Hid ((w1.alloc (.cells #[] 3)).heap.size = w.heap.size + 1 + 1) := Lib.hid (by rw [World.size_alloc, HZ1.out])
  obtain ⟨LL, hLL⟩ : ∃ LL, LL = allQ n n n := ⟨_, rfl⟩
  have HOK : Hid (∀ L ∈ LL, valid L = true ∧ SmallParts L) := Lib.hid (hLL ▸ allQ_ok hn)
  have hle : LL.length ≤ 400 := hLL ▸ allQ_le (by omega) (by omega) (by omega)
  have HL := Lib.hid hLL
  clear hLL
  go_enter Try.func32, Try.ntmps32
  go_wp2_with fail
  rw [← HW1.out]
  refine (slist_lists n (by omega) n _ 0 (w1.alloc (.cells #[] 3)).heap.size [] n _ (Nat.le_refl _) (by simp; omega) (by omega) (fun h => absurd rfl h) (Nat.le_refl _)).mono ?_
  rintro e w2 ⟨a6, c6, vs, rfl, h6, hb2⟩
  rw [show List.map (fun x => [] ++ x) (allQ n n n) = allQ n n n from by simp, ← HL.out] at h6
  rw [← HL.out]
  rw [HZ2.out] at h6 hb2
  have HALL := Lib.hid (h6.lower (show w.heap.size + 1 ≤ w.heap.size + 1 + 1 by omega))
  clear h6
  have hbw2 : Below w.heap.size w w2 := (hb1.alloc hb1.size _).trans (hb2.mono (by omega))
  have hE2 := (hE.below ((Below.refl _ _).alloc (by have := HZ1.out; omega) (.cells #[] 3))).below (hb2.mono (show w.heap.size + 1 ≤ w.heap.size + 1 + 1 by omega))
  have hsz2 : w.heap.size + 1 ≤ w2.heap.size := by have := hb2.size; rw [HZ2.out] at this; omega
  go_wp2_with fail
  clear hE hb1 hb2
  go_loopw [5, 7] (fun v ii wr => ∃ (i : Nat) (us : List Value), ii = .int .i64 (i : Int) ∧ i ≤ LL.length ∧ us.length ≤ i ∧ OwnLL wr w.heap.size wr.heap.size 32 3 v us ((LL.take i).filter K) ∧ (∀ g, v.ownBlock = some g → g < w.heap.size + 1 ∨ w2.heap.size ≤ g) ∧ (∀ u ∈ us, ∃ j, j < i ∧ vs[j]? = some u) ∧ Kp w2 wr (w.heap.size + 1) ∧ Below w.heap.size w wr) (fun _ ii _ => LL.length - (intOf ii).toNat)
  case atStart => exact ⟨0, [], rfl, Nat.zero_le _, Nat.le_refl _, by simpa using hE2.more, fun g hg => by left; cases hg; exact Nat.lt_succ_self _, by simp, ⟨Nat.le_refl _, fun _ _ _ => rfl⟩, hbw2⟩
  case round =>
    obtain ⟨i, us, rfl, hiN, hui, ho, hout, hmem, hkp, hbel⟩ := hrel
    clear hE2 hbw2
    have HO := Lib.hid ho
    clear ho
    by_cases hlt : i < LL.length
    · have hlt' : (i : Int) < (LL.length : Int) := by omega
      obtain ⟨hv, hs⟩ := HOK.out _ (List.getElem_mem hlt)
      have HAL := Lib.hid (HALL.out.keep hkp.1 hkp.2)
      obtain ⟨gA, aM, cM, rfl, hgl, hgh, hcell, hoM, hvk⟩ := HAL.out.at_ hlt
      have HT := Lib.hid (show (LL.take (i + 1)).filter K = (LL.take i).filter K ++ [LL[i]].filter K by rw [List.take_succ_eq_append_getElem hlt, List.filter_append])
      obtain ⟨M, hM⟩ : ∃ M, M = LL[i] := ⟨_, rfl⟩
      rw [← hM] at hv hs hcell hoM hvk HT
      have HV := Lib.hid hv
      have HR := Lib.hid hoM.rd
      have HOM := Lib.hid hoM
      have HVK := Lib.hid hvk
      clear hv hs hM hoM hvk
      have hkz := hkp.1
      cases hK : K M with
      | false =>
        have HK := Lib.hid hK
        clear hK
        go_wp2_with (go_at_call 30; refine (hSK _ _ _ M _ HV.out HR.out (by omega)).mono ?_; rintro e w3 ⟨rfl, hb3⟩; rw [HK.out])
        go_roundw
        case rel =>
          refine ⟨i + 1, us, by go_num, by omega, by omega, ?_, hout, fun u hu => ?_, hkp.below hb3, hbel.trans (hb3.mono hbel.size)⟩
          · rw [HT.out]
            have e0 : [M].filter K = [] := by simp [HK.out]
            rw [e0, List.append_nil]
            exact (HO.out.below hb3).more
          · obtain ⟨j, h1, h2⟩ := hmem u hu
            exact ⟨j, by omega, h2⟩
        case measure => simp [intOf] <;> omega
      | true =>
        have HK := Lib.hid hK
        clear hK
        go_wp2_with (first
          | (at_builtin; refine wpList_append_o _ rfl (.tmp 31) (.tmp 36) 22 rfl w.heap.size w3.heap.size 32 i1 (.slice none 0 0) 24 Try.underlying22 hj hy0 hy1 hy2 rfl _ us rfl ((HO.out.outer.below hb3).more.alloc _) (w3.heap.size + 1) (some ⟨w3.heap.size, 0, none⟩) 1 1 [.slice aM M.length cM] rfl (Rd.one w3 _ _) rfl (by intro u hu; rw [List.mem_singleton.1 hu]; rfl) (by unfold maxLen; omega) (by omega) (by rw [World.size_alloc]; have := hbel.size; have := hb3.size; omega) ?_; intro v' w6 ho6 hg6 hat6)
          | (go_at_call 30; refine (hSK _ _ _ M _ HV.out HR.out (by omega)).mono ?_; rintro e w3 ⟨rfl, hb3⟩; rw [HK.out]; have hcell3 := (hb3.cell (p := ⟨gA, i, none⟩) (World.block_lt_of_cell? _ _ hcell)).trans hcell))
        go_roundw
        case rel =>
          have hz3 := hb3.size
          have hrow := HO.out.outer.base
          have hvn : ∀ g, v'.ownBlock = some g → g < w.heap.size + 1 ∨ w2.heap.size ≤ g := fun g hg => by
            rcases hat6 with e | e
            · exact hout g (e ▸ hg)
            · rw [e] at hg
              cases hg
              right
              rw [World.size_alloc]
              omega
          have hAlo : ∀ (j : Nat) x g, vs[j]? = some x → x.ownBlock = some g → w.heap.size + 1 ≤ g ∧ g < w2.heap.size := fun j x g hx hg => by
            have hjl := (List.getElem?_eq_some_iff.1 hx).1
            have hjL : j < LL.length := by rw [← HALL.out.len]; exact hjl
            have hin := HALL.out.inner j x LL[j] hx (List.getElem?_eq_getElem hjL)
            exact ⟨hin.base g hg, hin.lt g hg⟩
          have hOM6 : Own w6 w.heap.size w6.heap.size 3 (.slice aM M.length cM) (ints M) := by
            have h3 := ((HOM.out.below (hb3.mono hkp.1)).alloc (.cells #[.slice aM M.length cM] 32))
            refine ((h3.grown hg6 ?_).more).lower (by omega)
            cases hb : (Value.slice aM M.length cM).ownBlock with
            | none => exact .inl rfl
            | some g =>
              refine .inr fun e => ?_
              have h4 := hAlo i _ g HVK.out hb
              have h5 := hout g e.symm
              omega
          have hstep : OwnLL w6 w.heap.size w6.heap.size 32 3 v' (us ++ [.slice aM M.length cM]) ((LL.take i).filter K ++ [M]) := by
            refine (HO.out.below hb3).push (by simpa using ho6) (fun k x L hx hL => ?_) hOM6 (fun g hg e => ?_) (fun k x g hx hg => ?_)
            · have hk := (HO.out.below hb3).inner k x L hx hL
              refine ((hk.alloc (.cells #[.slice aM M.length cM] 32)).grown hg6 ?_).more
              cases hb : x.ownBlock with
              | none => exact .inl rfl
              | some g => exact .inr fun e => HO.out.apartO k x g hx hb e.symm
            · have h4 := hAlo i _ g HVK.out hg
              have h5 := hvn g e
              omega
            · obtain ⟨j, hj1, hj2⟩ := hmem x (List.mem_of_getElem? hx)
              have h4 := hAlo j x g hj2 hg
              refine ⟨fun e => by have h5 := hvn g e; omega, fun e => ?_⟩
              have := HALL.out.apart j i x _ g hj2 HVK.out hg e
              omega
          refine ⟨i + 1, us ++ [.slice aM M.length cM], by go_num, by omega, by simp; omega, ?_, hvn, fun u hu => ?_, ((hkp.below hb3).alloc _).grown hg6 (fun g hg => by have := hout g hg; omega), below_push (hbel.trans (hb3.mono hbel.size)) (Nat.le_refl _) hg6 hrow⟩
          · rw [HT.out]
            have e0 : [M].filter K = [M] := by simp [HK.out]
            rw [e0]
            exact hstep
          · rcases List.mem_append.1 hu with h | h
            · obtain ⟨j, h1, h2⟩ := hmem u h
              exact ⟨j, by omega, h2⟩
            · rw [List.mem_singleton.1 h]; exact ⟨i, by omega, HVK.out⟩
        case measure => simp [intOf] <;> omega
    · obtain rfl : i = LL.length := by omega
      obtain ⟨a5, c5, rfl⟩ := HO.out.form
      have HE : Hid ((LL.take LL.length).filter K = LL.filter K) := Lib.hid (by rw [List.take_of_length_le (Nat.le_refl _)])
      go_wp2_with fail
      go_ret
      have hq : (LL.take LL.length).filter K = (allQ n n n).filter K := by rw [HE.out, HL.out]
      have h1 := HO.out
      rw [hq] at h1
      exact ⟨a5, c5, us, by rw [← hq]; rfl, h1, hbel⟩
theorem filter_same {K K' : List Int → Bool} (h : ∀ L, K' L = K L) (l : List (List Int)) : l.filter K' = l.filter K := by
  congr 1; funext L; exact h L
theorem sKindParts_any (s : ByteArray) (n : Int) (w : World) :
    Calls Try.prog 9 #[.string s, .int .i64 n] w fun e w' => ∃ (a' : Option Addr) (c' : Nat) (us : List Value), e = .returned (.slice a' (kpF s.data.toList n).length c') ∧ OwnLL w' w.heap.size w'.heap.size 32 3 (.slice a' (kpF s.data.toList n).length c') us (kpF s.data.toList n) ∧ Below w.heap.size w w' := by
  have hb0 := (Below.refl w.heap.size w).alloc (Nat.le_refl _) (.cells #[] 3)
  cases hk : kindOf s.data.toList with
  | none =>
    have HF := Lib.hid (kpF_none hk n)
    have HK := Lib.hid hk
    clear hk
    go_enter Try.func9, Try.ntmps9
    go_wp2_with (go_at_call 30; refine (skind_none s HK.out _ _ [] _).mono ?_; rintro e w1 ⟨rfl, hb1⟩)
    go_ret
    rw [HF.out]
    have hb := hb0.trans (hb1.mono (by simp))
    exact ⟨none, 0, [], rfl, (OwnLL.nil _ _ _ _).lower hb.size, hb⟩
  | some K =>
    obtain ⟨K', hSK, hKK⟩ := sk_of hk
    have HSK := Lib.hid hSK
    have HKK := Lib.hid hKK
    have HK := Lib.hid hk
    clear hk hSK hKK
    have hv0 : valid [] = true := rfl
    have HR : Hid (Rd (w.alloc (.cells #[] 3)) (w.alloc (.cells #[] 3)).heap.size (some ⟨w.heap.size, 0, none⟩) (ints [])) := Lib.hid (fun h => absurd rfl h)
    by_cases h : 0 ≤ n ∧ n ≤ 12
    · obtain ⟨h1, h2⟩ := h
      obtain ⟨n, rfl⟩ := Int.eq_ofNat_of_zero_le h1
      have hn : n ≤ 12 := by omega
      have HF := Lib.hid (kpF_some HK.out hn)
      go_enter Try.func9, Try.ntmps9
      go_wp2_with (first
        | (go_at_call 30; refine (HSK.out _ _ _ [] _ hv0 HR.out (Nat.le_refl _)).mono ?_; rintro e w1 ⟨rfl, hb1⟩)
        | (go_at_call 31; refine (inRange_yes _ _ _ _ h1 h2).mono ?_; rintro e wv ⟨rfl, hwv⟩; obtain rfl : w1 = wv := hwv.symm)
        | (go_at_call 32; refine (kindList_ll s K' HSK.out n hn _).mono ?_; rintro e w2 ⟨a', c', us, rfl, hLL, hb2⟩; rw [filter_same HKK.out] at hLL ⊢))
      go_ret
      have hb := hb0.trans (hb1.mono (by simp))
      rw [HF.out]
      exact ⟨a', c', us, rfl, hLL.lower hb.size, hb.trans (hb2.mono hb.size)⟩
    · have HF := Lib.hid (kpF_out (l := s.data.toList) h)
      have HN : Hid (n < 0 ∨ 12 < n) := Lib.hid (by omega)
      clear h
      go_enter Try.func9, Try.ntmps9
      go_wp2_with (first
        | (go_at_call 30; refine (HSK.out _ _ _ [] _ hv0 HR.out (Nat.le_refl _)).mono ?_; rintro e w1 ⟨rfl, hb1⟩)
        | (go_at_call 31; refine (inRange_no _ _ _ _ HN.out).mono ?_; rintro e wv ⟨rfl, hwv⟩; obtain rfl : w1 = wv := hwv.symm))
      go_ret
      rw [HF.out]
      have hb := hb0.trans (hb1.mono (by simp))
      exact ⟨none, 0, [], rfl, (OwnLL.nil _ _ _ _).lower hb.size, hb⟩
theorem sKindCount_any (s : ByteArray) (n : Int) (w : World) :
    Calls Try.prog 20 #[.string s, .int .i64 n] w fun e w' => e = .returned (.int .i64 (kcF s.data.toList n)) ∧ Below w.heap.size w w' := by
  have hb0 := (Below.refl w.heap.size w).alloc (Nat.le_refl _) (.cells #[] 3)
  cases hk : kindOf s.data.toList with
  | none =>
    have HF := Lib.hid (kcF_none hk n)
    have HK := Lib.hid hk
    clear hk
    go_enter Try.func20, Try.ntmps20
    go_wp2_with (go_at_call 30; refine (skind_none s HK.out _ _ [] _).mono ?_; rintro e w1 ⟨rfl, hb1⟩)
    go_ret
    exact ⟨ret_i64 HF.out.symm, hb0.trans (hb1.mono (by simp))⟩
  | some K =>
    obtain ⟨K', hSK, hKK⟩ := sk_of hk
    have HSK := Lib.hid hSK
    have HKK := Lib.hid hKK
    have HK := Lib.hid hk
    clear hk hSK hKK
    have hv0 : valid [] = true := rfl
    have HR : Hid (Rd (w.alloc (.cells #[] 3)) (w.alloc (.cells #[] 3)).heap.size (some ⟨w.heap.size, 0, none⟩) (ints [])) := Lib.hid (fun h => absurd rfl h)
    by_cases h : 0 ≤ n ∧ n ≤ 12
    · obtain ⟨h1, h2⟩ := h
      obtain ⟨n, rfl⟩ := Int.eq_ofNat_of_zero_le h1
      have hn : n ≤ 12 := by omega
      have HF := Lib.hid (kpF_some HK.out hn)
      have HC := Lib.hid (kcF_some HK.out hn)
      go_enter Try.func20, Try.ntmps20
      go_wp2_with (first
        | (go_at_call 30; refine (HSK.out _ _ _ [] _ hv0 HR.out (Nat.le_refl _)).mono ?_; rintro e w1 ⟨rfl, hb1⟩)
        | (go_at_call 31; refine (inRange_yes _ _ _ _ h1 h2).mono ?_; rintro e wv ⟨rfl, hwv⟩; obtain rfl : w1 = wv := hwv.symm)
        | (go_at_call 32; refine (kindList_ll s K' HSK.out n hn _).mono ?_; rintro e w2 ⟨a', c', us, rfl, hLL, hb2⟩; rw [filter_same HKK.out, ← HF.out] at hLL ⊢))
      go_ret
      have hb := hb0.trans (hb1.mono (by simp))
      exact ⟨ret_i64 HC.out.symm, hb.trans (hb2.mono hb.size)⟩
    · have HF := Lib.hid (kcF_out (l := s.data.toList) h)
      have HN : Hid (n < 0 ∨ 12 < n) := Lib.hid (by omega)
      clear h
      go_enter Try.func20, Try.ntmps20
      go_wp2_with (first
        | (go_at_call 30; refine (HSK.out _ _ _ [] _ hv0 HR.out (Nat.le_refl _)).mono ?_; rintro e w1 ⟨rfl, hb1⟩)
        | (go_at_call 31; refine (inRange_no _ _ _ _ HN.out).mono ?_; rintro e wv ⟨rfl, hwv⟩; obtain rfl : w1 = wv := hwv.symm))
      go_ret
      exact ⟨ret_i64 HF.out.symm, hb0.trans (hb1.mono (by simp))⟩
end Go.Proofs.Ytfcmfjhlmjnjiaa
