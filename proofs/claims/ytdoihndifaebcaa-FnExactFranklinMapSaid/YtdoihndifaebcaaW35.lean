/-
  Walks of the program: hooks of own conjugates.
-/
import Derived.Test.YtdoihndifaebcaaW33
import Derived.Test.YtdoihndifaebcaaW16
namespace Go.Proofs.Ytdoihndifaebcaa
open Go.RowKit NP
set_option linter.unusedVariables false
set_option linter.unusedSimpArgs false
/-- the first i rows unfolded -/
def unf (A : List Int) (i : Nat) : List Int := (List.range 16).map fun (j : Nat) => if j < i then A.getD j 0 + 1 + A.getD j 0 else 0
theorem unf_len (A : List Int) (i : Nat) : (unf A i).length = 16 := by simp [unf]
theorem unf_zero (A : List Int) : unf A 0 = List.replicate 16 0 := by simp [unf, List.map_const']
theorem unf_set (A : List Int) {i : Nat} (h : i < 16) : (unf A i).set i (A.getD i 0 + 1 + A.getD i 0) = unf A (i + 1) := by
  apply List.ext_getElem
  · simp [unf]
  · intro j h1 h2
    simp only [unf, List.getElem_set, List.getElem_map, List.getElem_range]
    by_cases hj : i = j
    · subst hj; rw [if_pos rfl, if_pos (by omega)]
    · rw [if_neg hj]
      by_cases hji : j < i
      · rw [if_pos hji, if_pos (by omega)]
      · rw [if_neg hji, if_neg (by omega)]
theorem unf_end {A : List Int} (h : A.length ≤ 16) : unf A A.length = pad (A.map fun a => a + 1 + a) := by
  have hl : (pad (A.map fun a => a + 1 + a)).length = 16 := pad_len (by simpa using h)
  apply List.ext_getElem
  · rw [unf_len, hl]
  · intro j h1 h2
    have : (pad (A.map fun a => a + 1 + a))[j] = (A.map fun a => a + 1 + a).getD j 0 := by rw [← getD_lt h2, pad_getD (by simpa using h)]
    rw [this]
    simp only [unf, List.getElem_map, List.getElem_range]
    by_cases hj : j < A.length
    · rw [if_pos hj, getD_lt (L := A.map _) (by simpa using hj), getD_lt hj]; simp
    · rw [if_neg hj, getD_ge (L := A.map _) (by simpa using hj)]

set_option maxHeartbeats 2000000 in
theorem unfolded_any (L : List Int) (hv : valid L = true) (hk : kSelf L = true) (w : World) :
    Calls Try.prog 70 #[.agg (arr (pad L))] w fun e w' => e = .returned (.agg (arr (pad (h2o L)))) ∧ Below w.heap.size w w' := by
  have hl16 := (valid_bd hv).2.2.2
  have HPL := Lib.hid (pad_len hl16)
  have HPB := Lib.hid (pad_nonneg hv)
  have hvH : valid (h2o L) = true := ((dod_iff _).1 (h2o_facts ((slf_iff L).2 ⟨hv, hk⟩)).1).1
  have hlH := (valid_bd hvH).2.2.2
  have hiL := hiL_of hl16
  have hiH := hiL_of hlH
  have hsH : (arr (pad (h2o L))).size = (arr (List.replicate 16 0)).size := by rw [arr_size, arr_size, pad_len hlH]; rfl
  obtain ⟨A, hA⟩ : ∃ A, A = froA L := ⟨_, rfl⟩
  have hAl : A.length ≤ 16 := by rw [hA]; unfold froA; rw [armsTo_len]; exact durS_le hv
  have hend : unf A A.length = pad (h2o L) := by rw [unf_end hAl]; unfold h2o; rw [hA]
  have HEND := Lib.hid hend
  have HAD : Hid (armsTo (pad L) (durD (pad L)) = A) := Lib.hid (by rw [durD_pad hv, hA]; exact armsTo_congr (fun i => pad_getD hl16 i) _)
  have HAB : Hid (∀ i, -1 ≤ A.getD i 0 ∧ A.getD i 0 ≤ 16) := Lib.hid (fun i => by
    rcases Nat.lt_or_ge i A.length with h | h
    · rw [hA] at h ⊢
      unfold froA at h ⊢
      rw [armsTo_len] at h
      rw [armsTo_getD _ _ _ h]
      have := getD_nn hv i
      have := (durS_spec L).2.1 i h
      omega
    · rw [getD_ge h]; omega)
  have HDL : Hid (durD (pad L) = A.length) := Lib.hid (by rw [durD_pad hv, hA]; unfold froA; rw [armsTo_len])
  have k0 := Blk.new w 55 (arr (pad L))
  have hbel0 : Below w.heap.size w (((w.alloc (.cells (arr (pad L)) 55)).alloc (.cells (arr (List.replicate 16 0)) 55)).alloc (.cells (arr (List.replicate 16 0)) 55)) := (((Below.refl _ _).alloc (Nat.le_refl _) _).alloc (by simp) _).alloc (by simp; omega) _
  have kL := (k0.alloc (.cells (arr (List.replicate 16 0)) 55)).alloc (.cells (arr (List.replicate 16 0)) 55)
  have kR := (Blk.new (w.alloc (.cells (arr (pad L)) 55)) 55 (arr (List.replicate 16 0))).alloc (.cells (arr (List.replicate 16 0)) 55)
  have kD := Blk.new ((w.alloc (.cells (arr (pad L)) 55)).alloc (.cells (arr (List.replicate 16 0)) 55)) 55 (arr (List.replicate 16 0))
  rw [World.size_alloc] at kR
  rw [World.size_alloc, World.size_alloc] at kD
  clear hv hk hvH hA hend k0
  go_enter Try.func70, Try.ntmps70
  go_wp2_with (first
    | (go_at_call 103; refine (arms_any (pad L) HPL.out HPB.out _).mono ?_; rintro e w1 ⟨a', rfl, ho1, hb1⟩; rw [HAD.out, HDL.out] at ho1; rw [HDL.out]; rw [World.size_alloc, World.size_alloc, World.size_alloc] at ho1)
    | (refine wpList_load_row rfl 55 (.tmp 1) rfl (w.heap.size) rfl 55 (arr (pad L)) (0, 0) _ kL Try.underlying55 rfl hiL ?_))
  have hbel1 := hbel0.trans (hb1.mono (by simp; omega))
  have kR1 := kR.below hb1 (by simp)
  have kD1 := kD.below hb1 (by simp)
  have hrd := ho1.rd
  have hlo1 := ho1.base
  clear kL kR kD hbel0
  have HO1 := Lib.hid ho1
  clear ho1
  go_loopw [4, 5, 9] (fun _ _ vi wr => ∃ i : Nat, i ≤ A.length ∧ vi = .int .i64 i ∧ Below w.heap.size w wr ∧ Blk wr (w.heap.size + 1) 55 (arr (List.replicate 16 0)) ∧ Blk wr (w.heap.size + 2) 55 (arr (unf A i)) ∧ Own wr (w.heap.size + 3) wr.heap.size 3 (.slice a' A.length A.length) (ints A)) (fun _ _ vi _ => 20 - (intOf vi).toNat)
  case atStart => exact ⟨0, Nat.zero_le _, rfl, hbel1, kR1, by rw [unf_zero]; exact kD1, HO1.out⟩
  case round =>
    obtain ⟨i, hi, rfl, hbel, hbR, hbD, hoA⟩ := hrel
    clear kR1 kD1 hbel1 hrd HO1
    by_cases hlt : i < A.length
    · have hlt' : (i : Int) < (A.length : Int) := by omega
      have hi16 : (i : Int) < 16 := by omega
      obtain ⟨b, o, rfl, _, hc⟩ := hoA.rd.at_ hlt
      have hx := HAB.out i
      rw [getD_lt hlt] at hx
      have hfl := unf_len A i
      have hc1 : wr.cell? ⟨w.heap.size + 2, i, none⟩ = some (.int .i64 ((unf A i)[i]'(by rw [hfl]; omega))) := by rw [hbD.cell i, arr_get _ i (by rw [hfl]; omega)]
      have hf1 : wr.frozen? ⟨w.heap.size + 2, i, none⟩ = false := hbD.free i
      have HS := Lib.hid (unf_set A (i := i) (by omega))
      rw [getD_lt hlt] at HS
      have HOA := Lib.hid hoA
      clear hoA
      generalize (unf A i)[i]'_ = z at hc1
      generalize A[i] = x at *
      clear hfl
      go_wp2
      go_roundw
      case rel =>
        refine ⟨i + 1, by omega, by go_num, hbel.setCell (by show w.heap.size ≤ w.heap.size + 2; omega) _, hbR.off (by show w.heap.size + 1 ≠ w.heap.size + 2; omega) _, ?_, (HOA.out.off (fun g hg => by have := HOA.out.base g hg; show g ≠ w.heap.size + 2; omega) _).more⟩
        have e := hbD.set i (.int .i64 (x + 1 + x))
        rw [arr_set, HS.out] at e
        exact e
      case measure => simp [intOf]; omega
    · obtain rfl : i = A.length := by omega
      rw [HEND.out] at hbD
      go_wp2_with (first
        | (refine wpList_load_row rfl 55 (.tmp 3) rfl (w.heap.size + 2) rfl 55 (arr (pad (h2o L))) (0, 0) _ hbD Try.underlying55 rfl hiH ?_)
        | (refine wpList_store_row rfl 55 (.tmp 2) (.tmp 21) rfl (w.heap.size + 1) rfl (arr (pad (h2o L))) rfl 55 _ hbR hiH hsH (arr_one _) ?_))
      refine bodyPost_ret (results_cell_row rfl _ _ (w.heap.size + 1) 55 (arr (pad (h2o L))) (0, 0) _ rfl hbR.row Try.underlying55 rfl hiH) rfl ?_
      exact ⟨rfl, below_setRow' hbel (Nat.le_succ _) _⟩

/-- the first i halved -/
def hlv (L : List Int) (i : Nat) : List Int := (List.range L.length).map fun (j : Nat) => if j < i then L.getD j 0 / 2 else L.getD j 0
theorem hlv_len (L : List Int) (i : Nat) : (hlv L i).length = L.length := by simp [hlv]
theorem hlv_zero (L : List Int) : hlv L 0 = L := by
  apply List.ext_getElem
  · rw [hlv_len]
  · intro j h1 h2; simp [hlv, List.getElem?_eq_getElem h2]
theorem hlv_end (L : List Int) : hlv L L.length = halves L := by
  apply List.ext_getElem
  · rw [hlv_len]; simp [halves]
  · intro j h1 h2
    have : j < L.length := by rw [hlv_len] at h1; exact h1
    simp [hlv, halves, List.getElem?_eq_getElem this, this]
theorem hlv_get (L : List Int) (i : Nat) (h : i < L.length) : (hlv L i)[i]'(by rw [hlv_len]; exact h) = L[i] := by simp [hlv, List.getElem?_eq_getElem h]
theorem hlv_set (L : List Int) {i : Nat} (h : i < L.length) : (hlv L i).set i (L[i] / 2) = hlv L (i + 1) := by
  apply List.ext_getElem
  · simp [hlv]
  · intro j h1 h2
    have hj : j < L.length := by rw [hlv_len] at h2; exact h2
    simp only [hlv, List.getElem_set, List.getElem_map, List.getElem_range]
    by_cases hij : i = j
    · subst hij; rw [if_pos rfl, if_pos (by omega), getD_lt h]
    · rw [if_neg hij]
      by_cases hji : j < i
      · rw [if_pos hji, if_pos (by omega)]
      · rw [if_neg hji, if_neg (by omega)]

set_option maxHeartbeats 2000000 in
theorem folded_any (L : List Int) (hd : dod L = true) (w : World) :
    Calls Try.prog 71 #[.agg (arr (pad L))] w fun e w' => e = .returned (.agg (arr (pad (o2h L)))) ∧ Below w.heap.size w w' := by
  have hv : valid L = true := ((dod_iff L).1 hd).1
  obtain ⟨hok, hsl, -⟩ := o2h_facts hd
  have hvH := ((slf_iff _).1 hsl).1
  have hl16 := (valid_bd hv).2.2.2
  have hlH := (valid_bd hvH).2.2.2
  have HV := Lib.hid hv
  have HNN := Lib.hid (getD_nn hv)
  have HOK := Lib.hid hok
  have hiL := hiL_of hl16
  have hiH := hiL_of hlH
  have hsH : (arr (pad (o2h L))).size = (arr (List.replicate 16 0)).size := by rw [arr_size, arr_size, pad_len hlH]; rfl
  have hHl : (halves L).length = L.length := by simp [halves]
  have HHL := Lib.hid hHl
  have k0 := Blk.new w 55 (arr (pad L))
  have hbel0 : Below w.heap.size w ((w.alloc (.cells (arr (pad L)) 55)).alloc (.cells (arr (List.replicate 16 0)) 55)) := ((Below.refl _ _).alloc (Nat.le_refl _) _).alloc (by simp) _
  have kL := k0.alloc (.cells (arr (List.replicate 16 0)) 55)
  have kR := Blk.new (w.alloc (.cells (arr (pad L)) 55)) 55 (arr (List.replicate 16 0))
  rw [World.size_alloc] at kR
  clear hv hok hsl hvH k0 hHl hd
  go_enter Try.func71, Try.ntmps71
  go_wp2_with (first
    | (go_at_call 86; refine (list_any L HV.out _).mono ?_; rintro e w1 ⟨a', rfl, ho1, hb1⟩; rw [World.size_alloc, World.size_alloc] at ho1)
    | (refine wpList_load_row rfl 55 (.tmp 1) rfl (w.heap.size) rfl 55 (arr (pad L)) (0, 0) _ kL Try.underlying55 rfl hiL ?_))
  have hbel1 := hbel0.trans (hb1.mono (by simp; omega))
  have kR1 := kR.below hb1 (by simp)
  clear kL kR hbel0
  have HO1 := Lib.hid ho1
  clear ho1
  go_loopw [4, 5, 10] (fun _ _ vi wr => ∃ i : Nat, i ≤ L.length ∧ vi = .int .i64 i ∧ Below w.heap.size w wr ∧ Blk wr (w.heap.size + 1) 55 (arr (List.replicate 16 0)) ∧ Own wr (w.heap.size + 2) wr.heap.size 3 (.slice a' L.length L.length) (ints (hlv L i))) (fun _ _ vi _ => 20 - (intOf vi).toNat)
  case atStart => exact ⟨0, Nat.zero_le _, rfl, hbel1, kR1, by rw [hlv_zero]; exact HO1.out⟩
  case round =>
    obtain ⟨i, hi, rfl, hbel, hbR, hoA⟩ := hrel
    clear kR1 hbel1 HO1
    by_cases hlt : i < L.length
    · have hlt' : (i : Int) < (L.length : Int) := by omega
      have hil : i < (ints (hlv L i)).length := by rw [List.length_map, hlv_len]; exact hlt
      obtain ⟨g, c', e1, hg1, hg2, hc1, hf1⟩ := hoA.at_ hil
      injection e1 with e1 e2 e3
      subst e1 e3
      clear e2
      rw [List.getElem_map, hlv_get L i hlt] at hc1
      have hx := HNN.out i
      rw [getD_lt hlt] at hx
      have HS := Lib.hid (hlv_set L hlt)
      have HOA := Lib.hid hoA
      clear hoA hil
      generalize L[i] = x at *
      obtain ⟨q, hq⟩ : ∃ q, x / 2 = q := ⟨_, rfl⟩
      have hq' : x.tdiv 2 = q := by rw [Int.tdiv_eq_ediv_of_nonneg hx.1]; exact hq
      have HQ := Lib.hid hq
      go_wp2
      go_roundw
      case rel =>
        refine ⟨i + 1, by omega, by go_num, hbel.setCell (by show w.heap.size ≤ g; omega) _, hbR.off (by show w.heap.size + 1 ≠ g; omega) _, ?_⟩
        have e := HOA.out.set i (.int .i64 q)
        have e2 : (ints (hlv L i)).set i (Value.int .i64 q) = ints (hlv L (i + 1)) := by rw [← HS.out, HQ.out, ← List.map_set]
        rw [e2] at e
        exact e.more
      case measure => simp [intOf]; omega
    · obtain rfl : i = L.length := by omega
      rw [hlv_end] at hoA
      have hsz := hbel.size
      have HOA := Lib.hid hoA
      clear hoA
      go_wp2_with (first
        | (go_at_call 104; rw [← HHL.out]; refine (around_any _ _ _ _ _ _ (halves L) (halves L) _ HOA.out.rd HOA.out.rd (Nat.le_refl _) (Nat.le_refl _) HOK.out).mono ?_; rintro e w2 ⟨rfl, hb2⟩; have kR2 := hbR.below hb2 hbR.lt; have hbel2 := hbel.trans (hb2.mono hbel.size))
        | (refine wpList_store_row rfl 55 (.tmp 2) (.tmp 23) rfl (w.heap.size + 1) rfl (arr (pad (o2h L))) rfl 55 _ kR2 hiH hsH (arr_one _) ?_))
      refine bodyPost_ret (results_cell_row rfl _ _ (w.heap.size + 1) 55 (arr (pad (o2h L))) (0, 0) _ rfl kR2.row Try.underlying55 rfl hiH) rfl ?_
      exact ⟨rfl, below_setRow' hbel2 (Nat.le_succ _) _⟩
theorem unfWay (w : World) : IsWay w (.func (.func 70) #[] #[]) kSelf h2o :=
  ⟨_, _, _, rfl, enters_of Try.func70 (by kernel_rfl) rfl, fun w1 _ L hv hk => by have := unfolded_any L hv hk w1; simpa using this⟩
theorem folWay (w : World) : IsWay w (.func (.func 71) #[] #[]) (fun L => kRem 2 1 L && kFall 1 1 L) o2h :=
  ⟨_, _, _, rfl, enters_of Try.func71 (by kernel_rfl) rfl, fun w1 _ L hv hk => by
    have hd : dod L = true := by unfold dod; rw [hv]; exact hk
    have := folded_any L hd w1
    simpa using this⟩

set_option maxHeartbeats 2000000 in
theorem iHooksToOdd_any (a : Option Addr) (c B : Nat) (P : List Int) (w : World) (h : Rd w B a (ints P)) (hB : B ≤ w.heap.size) (hl : P.length ≤ 4611686018427387904) :
    Calls Try.prog 35 #[.slice a P.length c] w fun e w' => ∃ a' c', e = .returned (.tuple #[.slice a' (h2oF P).length c', .bool (slf P)]) ∧ Own w' w.heap.size w'.heap.size 3 (.slice a' (h2oF P).length c') (ints (h2oF P)) ∧ Below w.heap.size w w' := by
  have hvF : valid P = true → (kSelf) P = true → valid (h2o P) = true := fun hv hk => ((dod_iff _).1 (h2o_facts ((slf_iff P).2 ⟨hv, hk⟩)).1).1
  have e1 : mpF (kSelf) h2o P = h2oF P := rfl
  have e2 : mpOk (kSelf) P = slf P := rfl
  go_enter Try.func35, Try.ntmps35
  go_wp2_with (first
    | (go_at_call 49; refine (mapped_any _ _ B P _ _ (kSelf) h2o hvF _ hik.isK ((unfWay _).at_ P) (h.below (hb1.mono hB)) (Nat.le_trans hB hb1.size) hl).mono ?_; rintro e w2 ⟨a', c', rfl, ho2, hb2⟩; rw [e1] at ho2 ⊢; rw [e2])
    | (go_at_call 50; refine (kindsByName_any _).mono ?_; rintro e w1 ⟨b, n, f, rfl, km, kt, hb1⟩; have kt0 := kt [115, 101, 108, 102]; rw [kindOf_self] at kt0; obtain ⟨v, hfv, hik⟩ := kt0; have hlk := km.look ⟨#[115, 101, 108, 102]⟩ (by decide) hfv))
  go_ret2
  exact ⟨a', c', rfl, ho2.lower hb1.size, hb1.trans (hb2.mono hb1.size)⟩

set_option maxHeartbeats 2000000 in
theorem iOddToHooks_any (a : Option Addr) (c B : Nat) (P : List Int) (w : World) (h : Rd w B a (ints P)) (hB : B ≤ w.heap.size) (hl : P.length ≤ 4611686018427387904) :
    Calls Try.prog 37 #[.slice a P.length c] w fun e w' => ∃ a' c', e = .returned (.tuple #[.slice a' (o2hF P).length c', .bool (dod P)]) ∧ Own w' w.heap.size w'.heap.size 3 (.slice a' (o2hF P).length c') (ints (o2hF P)) ∧ Below w.heap.size w w' := by
  have hvF : valid P = true → (fun L => kRem 2 1 L && kFall 1 1 L) P = true → valid (o2h P) = true := fun hv hk => ((slf_iff _).1 (o2h_facts (show dod P = true by unfold dod; rw [hv]; exact hk)).2.1).1
  have e1 : mpF (fun L => kRem 2 1 L && kFall 1 1 L) o2h P = o2hF P := rfl
  have e2 : mpOk (fun L => kRem 2 1 L && kFall 1 1 L) P = dod P := rfl
  go_enter Try.func37, Try.ntmps37
  go_wp2_with (first
    | (go_at_call 49; refine (mapped_any _ _ B P _ _ (fun L => kRem 2 1 L && kFall 1 1 L) o2h hvF _ hik.isK ((folWay _).at_ P) (h.below (hb1.mono hB)) (Nat.le_trans hB hb1.size) hl).mono ?_; rintro e w2 ⟨a', c', rfl, ho2, hb2⟩; rw [e1] at ho2 ⊢; rw [e2])
    | (go_at_call 50; refine (kindsByName_any _).mono ?_; rintro e w1 ⟨b, n, f, rfl, km, kt, hb1⟩; have kt0 := kt [100, 105, 115, 116, 105, 110, 99, 116, 111, 100, 100]; rw [kindOf_distinctodd] at kt0; obtain ⟨v, hfv, hik⟩ := kt0; have hlk := km.look ⟨#[100, 105, 115, 116, 105, 110, 99, 116, 111, 100, 100]⟩ (by decide) hfv))
  go_ret2
  exact ⟨a', c', rfl, ho2.lower hb1.size, hb1.trans (hb2.mono hb1.size)⟩
end Go.Proofs.Ytdoihndifaebcaa
