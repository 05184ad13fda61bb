/-
  Walks of the program: all diagrams, one after the other.
-/
import Derived.Test.YtcjnmconehfbgaaIter
import Derived.Test.YtcjnmconehfbgaaM24
import Derived.Test.YtcjnmconehfbgaaW44
namespace Go.Proofs.Ytcjnmconehfbgaa
open Go.RowKit Go.Shelf NP
set_option maxRecDepth 8000
set_option linter.unusedVariables false
set_option linter.unusedSimpArgs false
attribute [local go_sem] Oper.semAt_some
abbrev VL := { x : List Int // valid x = true }
def topQ (L : List Int) (m : Nat) : Nat := if L.length = 0 then m else (L.getD (L.length - 1) 0).toNat
theorem upQ_leJ (f n top : Nat) : ∀ {j k : Nat}, j ≤ k → (upQ f n top j).length ≤ (upQ f n top k).length := by
  intro j k h
  unfold upQ
  have e : (List.range top).reverse.take k = (List.range top).reverse.take j ++ ((List.range top).reverse.take k).drop j := by
    conv => lhs; rw [← List.take_append_drop j ((List.range top).reverse.take k)]
    rw [List.take_take, Nat.min_eq_left h]
  rw [e, List.flatMap_append, List.length_append]
  omega
theorem upQ_pre (f n top : Nat) : ∀ {j k : Nat}, j ≤ k → upQ f n top j <+: upQ f n top k := by
  intro j k h
  unfold upQ
  have e : (List.range top).reverse.take k = (List.range top).reverse.take j ++ ((List.range top).reverse.take k).drop j := by
    conv => lhs; rw [← List.take_append_drop j ((List.range top).reverse.take k)]
    rw [List.take_take, Nat.min_eq_left h]
  rw [e, List.flatMap_append]
  exact List.prefix_append _ _
theorem KpT.setNew {T : TypeId} {W wr : World} (h : KpT T W wr) {b i : Nat} {v : Value} (hb : W.heap.size ≤ b) : KpT T W (wr.setCell ⟨b, i, none⟩ v) :=
  ⟨by have := h.size; simpa [World.setCell] using this, fun k cs fr hk => by
    have hlt := (Array.getElem?_eq_some_iff.1 hk).1
    exact (Below.heap_setCell wr ⟨b, i, none⟩ v k (by show k ≠ b; omega)).trans (h.same k cs fr hk)⟩
theorem valid_snoc {L : List Int} (hv : valid L = true) {p m : Nat} (h1 : 1 ≤ p) (h2 : sumL L + (p : Int) ≤ 16) (h3 : 0 < L.length → (p : Int) ≤ L.getD (L.length - 1) 0) : valid (L ++ [(p : Int)]) = true := by
  apply valid_of_preS
  · intro j hj _
    have hl := (valid_bd hv)
    rcases Nat.lt_or_ge j L.length with h | h
    · have hp := preS_of_valid hv j h h
      rw [List.getElem_append_left h]
      refine ⟨hp.1, hp.2.1, fun h0 => ?_⟩
      rw [List.getElem_append_left (by omega)]
      exact hp.2.2 h0
    · obtain rfl : j = L.length := by simp at hj; omega
      rw [List.getElem_append_right (Nat.le_refl _)]
      simp only [Nat.sub_self, List.getElem_cons_zero]
      refine ⟨by omega, by have := hl.1; omega, fun h0 => ?_⟩
      rw [List.getElem_append_left (by omega), ← getD_lt (by omega)]
      exact h3 h0
  · rw [sumL_append]; simpa [sumL] using h2
theorem topQ_snoc (L : List Int) (p m : Nat) : topQ (L ++ [(p : Int)]) m = p := by
  unfold topQ
  rw [if_neg (by simp), List.getD_eq_getElem?_getD]
  simp
theorem pad_snoc {L : List Int} (h : L.length < 16) (x : Int) : (pad L).set L.length x = pad (L ++ [x]) := by
  have e := pad_set (L := L ++ [x]) (k := L.length) (by simp) h
  rw [List.take_left, List.getElem_append_right (Nat.le_refl _)] at e
  simp only [Nat.sub_self, List.getElem_cons_zero] at e
  rw [e, List.take_of_length_le (by simp)]

set_option maxRecDepth 100000 in
set_option maxHeartbeats 4000000 in
theorem dfrom_zero (F : Fence) (hd : F.depth = none) (hf : F.fn 92) (hro : F.round = none) (l B N : Nat) (J Jx : List VL → World → Prop) (hJ : AbT B 54 J) (hJx : AbT B 54 Jx)
    (hY : ∀ m pre (x : VL) W, J pre W → pre.length < N → YieldAt F m Try.prog l #[.agg (arr (pad x.1))] W fun e W' =>
      (e = .returned (.bool true) ∧ J (pre ++ [x]) W' ∧ KpT 54 W W') ∨ (e = .returned (.bool false) ∧ Jx (pre ++ [x]) W'))
    (f : Nat) (L : List Int) (n : Nat) (pre : List VL) (W : World) (hv : valid L = true) (hj : J pre W) (hN : pre.length + 1 ≤ N) (hB : B ≤ W.heap.size) :
      CallsIn F n Try.prog 92 #[.agg (arr (pad L)), .int .i64 L.length, .int .i64 0, .func (.yield l) #[] #[]] W fun e W' =>
        (e = .returned (.bool true) ∧ (∃ xs : List VL, xs.map (·.1) = (allQ f 0 (topQ L 0)).map (L ++ ·) ∧ J (pre ++ xs) W') ∧ KpT 54 W W') ∨
        (e = .returned (.bool false) ∧ ∃ xs : List VL, xs.map (·.1) <+: (allQ f 0 (topQ L 0)).map (L ++ ·) ∧ Jx (pre ++ xs) W') := by
  have hdd : ∀ k : Nat, (F.depth.isSome = true → 1 ≤ k) := fun k h => by rw [hd] at h; cases h
  have hlen : L.length ≤ 16 := (valid_bd hv).2.2.2
  have hi16 : (Try.prog.info? 54).map (·.size) = some (arr (pad L)).size := by rw [arr_size, pad_len hlen]; exact T_info35
  have hb := Blk.new W 54 (arr (pad L))
  have hj1 := hJ.alloc _ _ (.cells (arr (pad L)) 54) hj
  rw [allQ_zero]
  obtain ⟨fn, tmps, assign, body, hy, hR⟩ := hY (n - 1) pre ⟨L, hv⟩ _ hj1 (by omega)
  have hkp : KpT 54 W (W.alloc (.cells (arr (pad L)) 54)) := KpT.below ((Below.refl _ _).alloc (Nat.le_refl _) _)
  dsimp only at hy
  refine callsIn_of_wp Try.func92 rfl hf ?_ hro
  simp only [Try.ntmps92, List.size_toArray, List.length_cons, List.length_nil, Nat.reduceAdd, Nat.reduceSub, Array.replicate_succ, Array.replicate_zero, List.push_toArray, List.append_toArray, List.nil_append, List.cons_append]
  gi_wp2_with (first
    | (refine wpListIn_load_row rfl 54 (.tmp 4) rfl W.heap.size rfl 54 (arr (pad L)) (0, 0) _ hb Try.underlying54 rfl hi16 ?_)
    | ((try refine ⟨hdd _, ?_⟩); refine hR.mono ?_; clear hR; rintro e W1 (⟨rfl, hJ1, hk1⟩ | ⟨rfl, hx1⟩)))
  · go_ret
    exact .inl ⟨rfl, ⟨[⟨L, hv⟩], by simp, hJ1⟩, hkp.trans hk1⟩
  · go_ret
    exact .inr ⟨rfl, [⟨L, hv⟩], by simp, hx1⟩

set_option maxRecDepth 100000 in
set_option maxHeartbeats 4000000 in
theorem dfrom_in (F : Fence) (hd : F.depth = none) (hf : F.fn 92) (hro : F.round = none) (l B N : Nat) (J Jx : List VL → World → Prop) (hJ : AbT B 54 J) (hJx : AbT B 54 Jx)
    (hY : ∀ m pre (x : VL) W, J pre W → pre.length < N → YieldAt F m Try.prog l #[.agg (arr (pad x.1))] W fun e W' =>
      (e = .returned (.bool true) ∧ J (pre ++ [x]) W' ∧ KpT 54 W W') ∨ (e = .returned (.bool false) ∧ Jx (pre ++ [x]) W')) :
    ∀ (f : Nat) (L : List Int) (m n : Nat) (pre : List VL) (W : World), m ≤ f → valid L = true → sumL L + (m : Int) ≤ 16 → J pre W → pre.length + (allQ f m (topQ L m)).length ≤ N → B ≤ W.heap.size →
      CallsIn F n Try.prog 92 #[.agg (arr (pad L)), .int .i64 L.length, .int .i64 m, .func (.yield l) #[] #[]] W fun e W' =>
        (e = .returned (.bool true) ∧ (∃ xs : List VL, xs.map (·.1) = (allQ f m (topQ L m)).map (L ++ ·) ∧ J (pre ++ xs) W') ∧ KpT 54 W W') ∨
        (e = .returned (.bool false) ∧ ∃ xs : List VL, xs.map (·.1) <+: (allQ f m (topQ L m)).map (L ++ ·) ∧ Jx (pre ++ xs) W') := by
  have hdd : ∀ k : Nat, (F.depth.isSome = true → 1 ≤ k) := fun k h => by rw [hd] at h; cases h
  intro f
  induction f with
  | zero =>
    intro L m n pre W hm hv hs hj hN hB
    obtain rfl : m = 0 := by omega
    rw [allQ_zero] at hN
    exact dfrom_zero F hd hf hro l B N J Jx hJ hJx hY 0 L n pre W hv hj (by simpa using hN) hB
  | succ f ih =>
    intro L m n pre W hm hv hs hj hN hB
    by_cases h0 : m = 0
    · subst h0
      rw [allQ_zero] at hN
      exact dfrom_zero F hd hf hro l B N J Jx hJ hJx hY (f + 1) L n pre W hv hj (by simpa using hN) hB
    have hbd := valid_bd hv
    have hlen : L.length ≤ 16 := hbd.2.2.2
    have hlen2 : L.length < 16 := by omega
    have hb := Blk.new W 54 (arr (pad L))
    have hj1 := hJ.alloc _ _ (.cells (arr (pad L)) 54) hj
    have hkp : KpT 54 W (W.alloc (.cells (arr (pad L)) 54)) := KpT.below ((Below.refl _ _).alloc (Nat.le_refl _) _)
    rw [allQ_up f m _ h0] at hN ⊢
    obtain ⟨T0, hT0⟩ : ∃ T0, T0 = min m (topQ L m) := ⟨_, rfl⟩
    rw [← hT0] at hN ⊢
    have htop : topQ L m ≤ 16 ∧ (0 < L.length → ((topQ L m : Nat) : Int) = L.getD (L.length - 1) 0) ∧ (L.length = 0 → topQ L m = m) := by
      unfold topQ
      by_cases hl0 : L.length = 0
      · rw [if_pos hl0]; exact ⟨by omega, fun h => by omega, fun _ => rfl⟩
      · rw [if_neg hl0]
        have := getD_nn hv (L.length - 1)
        exact ⟨by omega, fun _ => by omega, fun h => absurd h hl0⟩
    have hm0 : ((m : Int) == 0) = false := by simp; omega
    have HV := Lib.hid hv
    have HN := Lib.hid hN
    have HT := Lib.hid hT0
    have HTP := Lib.hid htop
    have HIH := Lib.hid ih
    clear hv hN ih hT0 htop
    -- the greatest part that may come
    have key : ∀ W1, W1 = W.alloc (.cells (arr (pad L)) 54) → True := fun _ _ => trivial
    clear key
    refine callsIn_of_wp Try.func92 rfl hf ?_ hro
    simp only [Try.ntmps92, List.size_toArray, List.length_cons, List.length_nil, Nat.reduceAdd, Nat.reduceSub, Array.replicate_succ, Array.replicate_zero, List.push_toArray, List.append_toArray, List.nil_append, List.cons_append]
    by_cases hl0 : L.length = 0
    · have e0 : T0 = m := by rw [HT.out, HTP.out.2.2 hl0]; omega
      have HE0 : Hid ((m : Int) = (T0 : Int)) := Lib.hid (by omega)
      have d1 : decide ((0 : Int) < (L.length : Int)) = false := decide_eq_false (by omega)
      have d1' : decide (0 < L.length) = false := decide_eq_false (by omega)
      clear e0
      have HL0 := Lib.hid hl0
      clear hl0
      gi_wp2
      gi_loopw [10] (fun v wr => ∃ (j : Nat) (xs : List VL) (D : List Int), j ≤ T0 ∧ v = .int .i64 ((T0 : Int) - (j : Int)) ∧ xs.map (·.1) = (upQ f m T0 j).map (L ++ ·) ∧ J (pre ++ xs) wr ∧ KpT 54 W wr ∧ Blk wr W.heap.size 54 (arr D) ∧ D.length = 16 ∧ (∀ p, D.set L.length p = (pad L).set L.length p)) (fun v _ => (intOf v).toNat)
      case atStart => exact ⟨0, [], pad L, Nat.zero_le _, by simp [HE0.out], by simp [upQ_zero], by simpa using hj1, hkp, hb, pad_len hlen, fun _ => rfl⟩
      case round =>
        obtain ⟨j, xs, D, hj, rfl, hxs, hJs, hks, hblk, hDl, hDs⟩ := hrel
        clear hb hj1 hkp
        by_cases hlt : j < T0
        · obtain ⟨p, hp⟩ : ∃ p : Nat, p = T0 - j := ⟨_, rfl⟩
          have hpv : (T0 : Int) - (j : Int) = (p : Int) := by omega
          have hp1 : 1 ≤ p := by omega
          have hT := HT.out
          have hpm : p ≤ m := by omega
          have hpt : 0 < L.length → (p : Int) ≤ L.getD (L.length - 1) 0 := fun h => by have := HTP.out.2.1 h; omega
          have hvp := valid_snoc HV.out (p := p) (m := m) hp1 (by omega) hpt
          have hset : D.set L.length (p : Int) = pad (L ++ [(p : Int)]) := by rw [hDs, pad_snoc hlen2]
          have hblk2 := hblk.set L.length (.int .i64 (p : Int))
          rw [arr_set, hset] at hblk2
          have hJ2 := hJ.cell _ _ _ L.length (.int .i64 (p : Int)) _ _ hJs hB hblk
          have hks2 := hks.setNew (i := L.length) (v := .int .i64 (p : Int)) (Nat.le_refl W.heap.size)
          have hcz : wr.cell? ⟨W.heap.size, L.length, none⟩ = some ((arr D)[L.length]?.getD undef) := by
            rw [hblk.cell L.length]
            have : L.length < (arr D).size := by rw [arr_size, hDl]; omega
            simp [this]
          have hfz : wr.frozen? ⟨W.heap.size, L.length, none⟩ = false := hblk.free _
          have hi16 : (Try.prog.info? 54).map (·.size) = some (arr (pad (L ++ [(p : Int)]))).size := by rw [arr_size, pad_len (valid_bd hvp).2.2.2]; exact T_info35
          have hup := upQ_succ f m T0 j hlt
          have hpi : T0 - 1 - j = p - 1 := by omega
          have hpc : pieceQ f m (p - 1) = (allQ f (m - p) p).map fun R => ((p : Nat) : Int) :: R := by unfold pieceQ; rw [show p - 1 + 1 = p by omega]
          have hle := upQ_leJ f m T0 (j := j + 1) (k := T0) hlt
          rw [hup, List.length_append, hpi, hpc, List.length_map] at hle
          have hxl : xs.length = (upQ f m T0 j).length := by have := congrArg List.length hxs; simpa using this
          have hih := HIH.out (L ++ [(p : Int)]) (m - p) (n - 1) (pre ++ xs) _ (by omega) hvp (by rw [sumL_append]; simp only [sumL]; omega) hJ2 (by rw [topQ_snoc, List.length_append]; have := HN.out; omega) (by have := hks2.size; omega)
          rw [topQ_snoc, show (((L ++ [(p : Int)]).length : Nat) : Int) = (L.length : Int) + 1 by simp, show ((m - p : Nat) : Int) = (m : Int) - (p : Int) by omega] at hih
          have hw1 : IntKind.i64.wrap ((L.length : Int) + 1) = (L.length : Int) + 1 := IntWalk.i64_in _ (by omega)
          have hw2 : IntKind.i64.wrap ((m : Int) - (p : Int)) = (m : Int) - (p : Int) := IntWalk.i64_in _ (by omega)
          have hw3 : IntKind.i64.wrap ((p : Int) - 1) = (p : Int) - 1 := IntWalk.i64_in _ (by omega)
          have hge : decide ((1 : Int) ≤ (p : Int)) = true := decide_eq_true (by omega)
          have hl16 : (L.length : Int) < 16 := by omega
          have HXS := Lib.hid hxs
          have HUP := Lib.hid hup
          have HSET := Lib.hid hset
          have HPC := Lib.hid hpc
          have HPI := Lib.hid hpi
          clear hxs hup hle hxl hset hpc hpi hJs hDs hT hp
          rw [hpv]
          gi_wp2_with (first
            | (refine wpListIn_load_row rfl 54 (.tmp 4) rfl W.heap.size rfl 54 (arr (pad (L ++ [(p : Int)]))) (0, 0) _ hblk2 Try.underlying54 rfl hi16 ?_)
            | ((try refine ⟨hdd _, ?_⟩); gi_at_call 92; refine hih.mono ?_; clear hih; rintro e W2 (⟨rfl, ⟨ys, hys, hJ3⟩, hk3⟩ | ⟨rfl, ys, hys, hx3⟩)))
          · go_roundw
            case rel =>
              refine ⟨j + 1, xs ++ ys, pad (L ++ [(p : Int)]), by omega, by congr 1; omega, ?_, by rw [← List.append_assoc]; exact hJ3, hks2.trans hk3, hk3.same _ _ _ hblk2, pad_len (valid_bd hvp).2.2.2, fun q => by rw [← pad_snoc hlen2, List.set_set]⟩
              rw [List.map_append, HXS.out, hys, HUP.out, List.map_append, HPI.out, HPC.out, List.map_map]
              congr 1
              apply List.map_congr_left
              intro R _
              simp
            case measure => simp [intOf]; omega
          · go_ret
            refine .inr ⟨rfl, xs ++ ys, ?_, by rw [← List.append_assoc]; exact hx3⟩
            have h1 : (upQ f m T0 (j + 1)).map (L ++ ·) <+: (upQ f m T0 T0).map (L ++ ·) := (upQ_pre f m T0 hlt).map _
            refine List.IsPrefix.trans ?_ h1
            rw [List.map_append, HXS.out, HUP.out, List.map_append, HPI.out, HPC.out, List.map_map]
            have e : (allQ f (m - p) p).map ((fun x => L ++ x) ∘ fun R => ((p : Nat) : Int) :: R) = (allQ f (m - p) p).map (fun R => (L ++ [(p : Int)]) ++ R) := by
              apply List.map_congr_left
              intro R _
              simp
            rw [e]
            exact (List.prefix_append_right_inj _).2 hys
        · obtain rfl : j = T0 := by omega
          have hpv : (j : Int) - (j : Int) = 0 := by omega
          rw [hpv]
          gi_wp2
          go_ret
          exact .inl ⟨rfl, ⟨xs, hxs, hJs⟩, hks⟩
    · have hlp : 0 < L.length := by omega
      have d1 : decide ((0 : Int) < (L.length : Int)) = true := decide_eq_true (by omega)
      have d1' : decide (0 < L.length) = true := decide_eq_true hlp
      have hl1 : L.length - 1 < (pad L).length := by rw [pad_len hlen]; omega
      have hcl : (W.alloc (.cells (arr (pad L)) 54)).cell? ⟨W.heap.size, L.length - 1, none⟩ = some (.int .i64 ((topQ L m : Nat) : Int)) := by
        rw [hb.cell, arr_get _ _ hl1, ← getD_lt hl1, pad_getD hlen, HTP.out.2.1 hlp]
      have hwl : IntKind.i64.wrap ((L.length : Int) - 1) = (L.length : Int) - 1 := IntWalk.i64_in _ (by omega)
      have hnn1 : (0 : Int) ≤ (L.length : Int) - 1 := by omega
      have hnn2 : (L.length : Int) - 1 < 16 := by omega
      have hnn3 : ((L.length : Int) - 1).toNat = L.length - 1 := by omega
      have HL0 := Lib.hid hl0
      clear hl0
      by_cases hcs : ((topQ L m : Nat) : Int) < (m : Int)
      · have hif : (((topQ L m : Nat) : Int) < (m : Int)) = True := by simpa using hcs
        have hif2 : (topQ L m < m) = True := by simp; omega
        have HE0 : Hid (((topQ L m : Nat) : Int) = (T0 : Int)) := Lib.hid (by rw [HT.out]; omega)
        clear hcs
        gi_wp2
        gi_loopw [10] (fun v wr => ∃ (j : Nat) (xs : List VL) (D : List Int), j ≤ T0 ∧ v = .int .i64 ((T0 : Int) - (j : Int)) ∧ xs.map (·.1) = (upQ f m T0 j).map (L ++ ·) ∧ J (pre ++ xs) wr ∧ KpT 54 W wr ∧ Blk wr W.heap.size 54 (arr D) ∧ D.length = 16 ∧ (∀ p, D.set L.length p = (pad L).set L.length p)) (fun v _ => (intOf v).toNat)
        case atStart => exact ⟨0, [], pad L, Nat.zero_le _, by simp [HE0.out], by simp [upQ_zero], by simpa using hj1, hkp, hb, pad_len hlen, fun _ => rfl⟩
        case round =>
          obtain ⟨j, xs, D, hj, rfl, hxs, hJs, hks, hblk, hDl, hDs⟩ := hrel
          clear hb hj1 hkp
          by_cases hlt : j < T0
          · obtain ⟨p, hp⟩ : ∃ p : Nat, p = T0 - j := ⟨_, rfl⟩
            have hpv : (T0 : Int) - (j : Int) = (p : Int) := by omega
            have hp1 : 1 ≤ p := by omega
            have hT := HT.out
            have hpm : p ≤ m := by omega
            have hpt : 0 < L.length → (p : Int) ≤ L.getD (L.length - 1) 0 := fun h => by have := HTP.out.2.1 h; omega
            have hvp := valid_snoc HV.out (p := p) (m := m) hp1 (by omega) hpt
            have hset : D.set L.length (p : Int) = pad (L ++ [(p : Int)]) := by rw [hDs, pad_snoc hlen2]
            have hblk2 := hblk.set L.length (.int .i64 (p : Int))
            rw [arr_set, hset] at hblk2
            have hJ2 := hJ.cell _ _ _ L.length (.int .i64 (p : Int)) _ _ hJs hB hblk
            have hks2 := hks.setNew (i := L.length) (v := .int .i64 (p : Int)) (Nat.le_refl W.heap.size)
            have hcz : wr.cell? ⟨W.heap.size, L.length, none⟩ = some ((arr D)[L.length]?.getD undef) := by
              rw [hblk.cell L.length]
              have : L.length < (arr D).size := by rw [arr_size, hDl]; omega
              simp [this]
            have hfz : wr.frozen? ⟨W.heap.size, L.length, none⟩ = false := hblk.free _
            have hi16 : (Try.prog.info? 54).map (·.size) = some (arr (pad (L ++ [(p : Int)]))).size := by rw [arr_size, pad_len (valid_bd hvp).2.2.2]; exact T_info35
            have hup := upQ_succ f m T0 j hlt
            have hpi : T0 - 1 - j = p - 1 := by omega
            have hpc : pieceQ f m (p - 1) = (allQ f (m - p) p).map fun R => ((p : Nat) : Int) :: R := by unfold pieceQ; rw [show p - 1 + 1 = p by omega]
            have hle := upQ_leJ f m T0 (j := j + 1) (k := T0) hlt
            rw [hup, List.length_append, hpi, hpc, List.length_map] at hle
            have hxl : xs.length = (upQ f m T0 j).length := by have := congrArg List.length hxs; simpa using this
            have hih := HIH.out (L ++ [(p : Int)]) (m - p) (n - 1) (pre ++ xs) _ (by omega) hvp (by rw [sumL_append]; simp only [sumL]; omega) hJ2 (by rw [topQ_snoc, List.length_append]; have := HN.out; omega) (by have := hks2.size; omega)
            rw [topQ_snoc, show (((L ++ [(p : Int)]).length : Nat) : Int) = (L.length : Int) + 1 by simp, show ((m - p : Nat) : Int) = (m : Int) - (p : Int) by omega] at hih
            have hw1 : IntKind.i64.wrap ((L.length : Int) + 1) = (L.length : Int) + 1 := IntWalk.i64_in _ (by omega)
            have hw2 : IntKind.i64.wrap ((m : Int) - (p : Int)) = (m : Int) - (p : Int) := IntWalk.i64_in _ (by omega)
            have hw3 : IntKind.i64.wrap ((p : Int) - 1) = (p : Int) - 1 := IntWalk.i64_in _ (by omega)
            have hge : decide ((1 : Int) ≤ (p : Int)) = true := decide_eq_true (by omega)
            have hl16 : (L.length : Int) < 16 := by omega
            have HXS := Lib.hid hxs
            have HUP := Lib.hid hup
            have HSET := Lib.hid hset
            have HPC := Lib.hid hpc
            have HPI := Lib.hid hpi
            clear hxs hup hle hxl hset hpc hpi hJs hDs hT hp
            rw [hpv]
            gi_wp2_with (first
              | (refine wpListIn_load_row rfl 54 (.tmp 4) rfl W.heap.size rfl 54 (arr (pad (L ++ [(p : Int)]))) (0, 0) _ hblk2 Try.underlying54 rfl hi16 ?_)
              | ((try refine ⟨hdd _, ?_⟩); gi_at_call 92; refine hih.mono ?_; clear hih; rintro e W2 (⟨rfl, ⟨ys, hys, hJ3⟩, hk3⟩ | ⟨rfl, ys, hys, hx3⟩)))
            · go_roundw
              case rel =>
                refine ⟨j + 1, xs ++ ys, pad (L ++ [(p : Int)]), by omega, by congr 1; omega, ?_, by rw [← List.append_assoc]; exact hJ3, hks2.trans hk3, hk3.same _ _ _ hblk2, pad_len (valid_bd hvp).2.2.2, fun q => by rw [← pad_snoc hlen2, List.set_set]⟩
                rw [List.map_append, HXS.out, hys, HUP.out, List.map_append, HPI.out, HPC.out, List.map_map]
                congr 1
                apply List.map_congr_left
                intro R _
                simp
              case measure => simp [intOf]; omega
            · go_ret
              refine .inr ⟨rfl, xs ++ ys, ?_, by rw [← List.append_assoc]; exact hx3⟩
              have h1 : (upQ f m T0 (j + 1)).map (L ++ ·) <+: (upQ f m T0 T0).map (L ++ ·) := (upQ_pre f m T0 hlt).map _
              refine List.IsPrefix.trans ?_ h1
              rw [List.map_append, HXS.out, HUP.out, List.map_append, HPI.out, HPC.out, List.map_map]
              have e : (allQ f (m - p) p).map ((fun x => L ++ x) ∘ fun R => ((p : Nat) : Int) :: R) = (allQ f (m - p) p).map (fun R => (L ++ [(p : Int)]) ++ R) := by
                apply List.map_congr_left
                intro R _
                simp
              rw [e]
              exact (List.prefix_append_right_inj _).2 hys
          · obtain rfl : j = T0 := by omega
            have hpv : (j : Int) - (j : Int) = 0 := by omega
            rw [hpv]
            gi_wp2
            go_ret
            exact .inl ⟨rfl, ⟨xs, hxs, hJs⟩, hks⟩
      · have hif : (((topQ L m : Nat) : Int) < (m : Int)) = False := by simpa using hcs
        have hif2 : (topQ L m < m) = False := by simp; omega
        have HE0 : Hid ((m : Int) = (T0 : Int)) := Lib.hid (by rw [HT.out]; omega)
        clear hcs
        gi_wp2
        gi_loopw [10] (fun v wr => ∃ (j : Nat) (xs : List VL) (D : List Int), j ≤ T0 ∧ v = .int .i64 ((T0 : Int) - (j : Int)) ∧ xs.map (·.1) = (upQ f m T0 j).map (L ++ ·) ∧ J (pre ++ xs) wr ∧ KpT 54 W wr ∧ Blk wr W.heap.size 54 (arr D) ∧ D.length = 16 ∧ (∀ p, D.set L.length p = (pad L).set L.length p)) (fun v _ => (intOf v).toNat)
        case atStart => exact ⟨0, [], pad L, Nat.zero_le _, by simp [HE0.out], by simp [upQ_zero], by simpa using hj1, hkp, hb, pad_len hlen, fun _ => rfl⟩
        case round =>
          obtain ⟨j, xs, D, hj, rfl, hxs, hJs, hks, hblk, hDl, hDs⟩ := hrel
          clear hb hj1 hkp
          by_cases hlt : j < T0
          · obtain ⟨p, hp⟩ : ∃ p : Nat, p = T0 - j := ⟨_, rfl⟩
            have hpv : (T0 : Int) - (j : Int) = (p : Int) := by omega
            have hp1 : 1 ≤ p := by omega
            have hT := HT.out
            have hpm : p ≤ m := by omega
            have hpt : 0 < L.length → (p : Int) ≤ L.getD (L.length - 1) 0 := fun h => by have := HTP.out.2.1 h; omega
            have hvp := valid_snoc HV.out (p := p) (m := m) hp1 (by omega) hpt
            have hset : D.set L.length (p : Int) = pad (L ++ [(p : Int)]) := by rw [hDs, pad_snoc hlen2]
            have hblk2 := hblk.set L.length (.int .i64 (p : Int))
            rw [arr_set, hset] at hblk2
            have hJ2 := hJ.cell _ _ _ L.length (.int .i64 (p : Int)) _ _ hJs hB hblk
            have hks2 := hks.setNew (i := L.length) (v := .int .i64 (p : Int)) (Nat.le_refl W.heap.size)
            have hcz : wr.cell? ⟨W.heap.size, L.length, none⟩ = some ((arr D)[L.length]?.getD undef) := by
              rw [hblk.cell L.length]
              have : L.length < (arr D).size := by rw [arr_size, hDl]; omega
              simp [this]
            have hfz : wr.frozen? ⟨W.heap.size, L.length, none⟩ = false := hblk.free _
            have hi16 : (Try.prog.info? 54).map (·.size) = some (arr (pad (L ++ [(p : Int)]))).size := by rw [arr_size, pad_len (valid_bd hvp).2.2.2]; exact T_info35
            have hup := upQ_succ f m T0 j hlt
            have hpi : T0 - 1 - j = p - 1 := by omega
            have hpc : pieceQ f m (p - 1) = (allQ f (m - p) p).map fun R => ((p : Nat) : Int) :: R := by unfold pieceQ; rw [show p - 1 + 1 = p by omega]
            have hle := upQ_leJ f m T0 (j := j + 1) (k := T0) hlt
            rw [hup, List.length_append, hpi, hpc, List.length_map] at hle
            have hxl : xs.length = (upQ f m T0 j).length := by have := congrArg List.length hxs; simpa using this
            have hih := HIH.out (L ++ [(p : Int)]) (m - p) (n - 1) (pre ++ xs) _ (by omega) hvp (by rw [sumL_append]; simp only [sumL]; omega) hJ2 (by rw [topQ_snoc, List.length_append]; have := HN.out; omega) (by have := hks2.size; omega)
            rw [topQ_snoc, show (((L ++ [(p : Int)]).length : Nat) : Int) = (L.length : Int) + 1 by simp, show ((m - p : Nat) : Int) = (m : Int) - (p : Int) by omega] at hih
            have hw1 : IntKind.i64.wrap ((L.length : Int) + 1) = (L.length : Int) + 1 := IntWalk.i64_in _ (by omega)
            have hw2 : IntKind.i64.wrap ((m : Int) - (p : Int)) = (m : Int) - (p : Int) := IntWalk.i64_in _ (by omega)
            have hw3 : IntKind.i64.wrap ((p : Int) - 1) = (p : Int) - 1 := IntWalk.i64_in _ (by omega)
            have hge : decide ((1 : Int) ≤ (p : Int)) = true := decide_eq_true (by omega)
            have hl16 : (L.length : Int) < 16 := by omega
            have HXS := Lib.hid hxs
            have HUP := Lib.hid hup
            have HSET := Lib.hid hset
            have HPC := Lib.hid hpc
            have HPI := Lib.hid hpi
            clear hxs hup hle hxl hset hpc hpi hJs hDs hT hp
            rw [hpv]
            gi_wp2_with (first
              | (refine wpListIn_load_row rfl 54 (.tmp 4) rfl W.heap.size rfl 54 (arr (pad (L ++ [(p : Int)]))) (0, 0) _ hblk2 Try.underlying54 rfl hi16 ?_)
              | ((try refine ⟨hdd _, ?_⟩); gi_at_call 92; refine hih.mono ?_; clear hih; rintro e W2 (⟨rfl, ⟨ys, hys, hJ3⟩, hk3⟩ | ⟨rfl, ys, hys, hx3⟩)))
            · go_roundw
              case rel =>
                refine ⟨j + 1, xs ++ ys, pad (L ++ [(p : Int)]), by omega, by congr 1; omega, ?_, by rw [← List.append_assoc]; exact hJ3, hks2.trans hk3, hk3.same _ _ _ hblk2, pad_len (valid_bd hvp).2.2.2, fun q => by rw [← pad_snoc hlen2, List.set_set]⟩
                rw [List.map_append, HXS.out, hys, HUP.out, List.map_append, HPI.out, HPC.out, List.map_map]
                congr 1
                apply List.map_congr_left
                intro R _
                simp
              case measure => simp [intOf]; omega
            · go_ret
              refine .inr ⟨rfl, xs ++ ys, ?_, by rw [← List.append_assoc]; exact hx3⟩
              have h1 : (upQ f m T0 (j + 1)).map (L ++ ·) <+: (upQ f m T0 T0).map (L ++ ·) := (upQ_pre f m T0 hlt).map _
              refine List.IsPrefix.trans ?_ h1
              rw [List.map_append, HXS.out, HUP.out, List.map_append, HPI.out, HPC.out, List.map_map]
              have e : (allQ f (m - p) p).map ((fun x => L ++ x) ∘ fun R => ((p : Nat) : Int) :: R) = (allQ f (m - p) p).map (fun R => (L ++ [(p : Int)]) ++ R) := by
                apply List.map_congr_left
                intro R _
                simp
              rw [e]
              exact (List.prefix_append_right_inj _).2 hys
          · obtain rfl : j = T0 := by omega
            have hpv : (j : Int) - (j : Int) = 0 := by omega
            rw [hpv]
            gi_wp2
            go_ret
            exact .inl ⟨rfl, ⟨xs, hxs, hJs⟩, hks⟩
end Go.Proofs.Ytcjnmconehfbgaa
