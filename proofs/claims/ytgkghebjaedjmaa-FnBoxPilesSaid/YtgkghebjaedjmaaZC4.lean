/-
  Walks of the program: the iterator over all diagrams with a sum, each of which has this sum. Words for lists of lists: readable (RdLL), the call's own (OwnLL). A function value that tells of each diagram whether something holds of its parts. Walks of the program: all parts with a sum, those of which something holds. Arrays of arrays: sixteen rows of sixteen numbers as one row of cells. Walks of the model: inside, dominance, meets, joins. Plain mathematics of orders: the promises of inside, dominance and joins.
-/
import Derived.Test.YtgkghebjaedjmaaZC1
import Derived.Test.YtgkghebjaedjmaaZC2
import Derived.Test.YtgkghebjaedjmaaZC3
namespace Go.Proofs.Ytgkghebjaedjmaa
open Go.RowKit Go.Shelf NP
set_option maxRecDepth 8000
set_option linter.unusedVariables false
set_option linter.unusedSimpArgs false
attribute [local go_sem] Oper.semAt_some
abbrev VLs (S : Int) := { x : List Int // valid x = true ∧ sumL x = S }
set_option maxRecDepth 100000 in
set_option maxHeartbeats 4000000 in
theorem dfromS_zero (S : Int) (F : Fence) (hd : F.depth = none) (hf : F.fn 73) (hro : F.round = none) (l B N : Nat) (J Jx : List (VLs S) → World → Prop) (hJ : AbT B 60 J) (hJx : AbT B 60 Jx)
    (hY : ∀ m pre (x : VLs S) W, J pre W → pre.length < N → YieldAt F m Try.prog l #[.agg (arr (pad x.1))] W fun e W' =>
      (e = .returned (.bool true) ∧ J (pre ++ [x]) W' ∧ KpT 60 W W') ∨ (e = .returned (.bool false) ∧ Jx (pre ++ [x]) W'))
    (f : Nat) (L : List Int) (n : Nat) (pre : List (VLs S)) (W : World) (hv : valid L = true) (hsm : sumL L = S) (hj : J pre W) (hN : pre.length + 1 ≤ N) (hB : B ≤ W.heap.size) :
      CallsIn F n Try.prog 73 #[.agg (arr (pad L)), .int .i64 L.length, .int .i64 0, .func (.yield l) #[] #[]] W fun e W' =>
        (e = .returned (.bool true) ∧ (∃ xs : List (VLs S), xs.map (·.1) = (allQ f 0 (topQ L 0)).map (L ++ ·) ∧ J (pre ++ xs) W') ∧ KpT 60 W W') ∨
        (e = .returned (.bool false) ∧ ∃ xs : List (VLs S), xs.map (·.1) <+: (allQ f 0 (topQ L 0)).map (L ++ ·) ∧ Jx (pre ++ xs) W') := by
  have hdd : ∀ k : Nat, (F.depth.isSome = true → 1 ≤ k) := fun k h => by rw [hd] at h; cases h
  have hlen : L.length ≤ 16 := (valid_bd hv).2.2.2
  have hi16 : (Try.prog.info? 60).map (·.size) = some (arr (pad L)).size := by rw [arr_size, pad_len hlen]; exact T_info35
  have hb := Blk.new W 60 (arr (pad L))
  have hj1 := hJ.alloc _ _ (.cells (arr (pad L)) 60) hj
  rw [allQ_zero]
  obtain ⟨fn, tmps, assign, body, hy, hR⟩ := hY (n - 1) pre ⟨L, hv, hsm⟩ _ hj1 (by omega)
  have hkp : KpT 60 W (W.alloc (.cells (arr (pad L)) 60)) := KpT.below ((Below.refl _ _).alloc (Nat.le_refl _) _)
  dsimp only at hy
  refine callsIn_of_wp Try.func73 rfl hf ?_ hro
  simp only [Try.ntmps73, List.size_toArray, List.length_cons, List.length_nil, Nat.reduceAdd, Nat.reduceSub, Array.replicate_succ, Array.replicate_zero, List.push_toArray, List.append_toArray, List.nil_append, List.cons_append]
  gi_wp2_with (first
    | (refine wpListIn_load_row rfl 60 (.tmp 4) rfl W.heap.size rfl 60 (arr (pad L)) (0, 0) _ hb Try.underlying60 rfl hi16 ?_)
    | ((try refine ⟨hdd _, ?_⟩); refine hR.mono ?_; clear hR; rintro e W1 (⟨rfl, hJ1, hk1⟩ | ⟨rfl, hx1⟩)))
  · go_ret
    exact .inl ⟨rfl, ⟨[⟨L, hv, hsm⟩], by simp, hJ1⟩, hkp.trans hk1⟩
  · go_ret
    exact .inr ⟨rfl, [⟨L, hv, hsm⟩], by simp, hx1⟩

set_option maxRecDepth 100000 in
set_option maxHeartbeats 4000000 in
theorem dfromS_in (S : Int) (F : Fence) (hd : F.depth = none) (hf : F.fn 73) (hro : F.round = none) (l B N : Nat) (J Jx : List (VLs S) → World → Prop) (hJ : AbT B 60 J) (hJx : AbT B 60 Jx)
    (hY : ∀ m pre (x : VLs S) W, J pre W → pre.length < N → YieldAt F m Try.prog l #[.agg (arr (pad x.1))] W fun e W' =>
      (e = .returned (.bool true) ∧ J (pre ++ [x]) W' ∧ KpT 60 W W') ∨ (e = .returned (.bool false) ∧ Jx (pre ++ [x]) W')) :
    ∀ (f : Nat) (L : List Int) (m n : Nat) (pre : List (VLs S)) (W : World), m ≤ f → valid L = true → sumL L + (m : Int) = S ∧ S ≤ 16 → J pre W → pre.length + (allQ f m (topQ L m)).length ≤ N → B ≤ W.heap.size →
      CallsIn F n Try.prog 73 #[.agg (arr (pad L)), .int .i64 L.length, .int .i64 m, .func (.yield l) #[] #[]] W fun e W' =>
        (e = .returned (.bool true) ∧ (∃ xs : List (VLs S), xs.map (·.1) = (allQ f m (topQ L m)).map (L ++ ·) ∧ J (pre ++ xs) W') ∧ KpT 60 W W') ∨
        (e = .returned (.bool false) ∧ ∃ xs : List (VLs S), xs.map (·.1) <+: (allQ f m (topQ L m)).map (L ++ ·) ∧ Jx (pre ++ xs) W') := by
  have hdd : ∀ k : Nat, (F.depth.isSome = true → 1 ≤ k) := fun k h => by rw [hd] at h; cases h
  intro f
  induction f with
  | zero =>
    intro L m n pre W hm hv hs0 hj hN hB
    have hs : sumL L + (m : Int) ≤ 16 := by omega
    obtain rfl : m = 0 := by omega
    rw [allQ_zero] at hN
    exact dfromS_zero S F hd hf hro l B N J Jx hJ hJx hY 0 L n pre W hv (by have := hs0.1; simpa using this) hj (by simpa using hN) hB
  | succ f ih =>
    intro L m n pre W hm hv hs0 hj hN hB
    have hs : sumL L + (m : Int) ≤ 16 := by omega
    by_cases h0 : m = 0
    · subst h0
      rw [allQ_zero] at hN
      exact dfromS_zero S F hd hf hro l B N J Jx hJ hJx hY (f + 1) L n pre W hv (by have := hs0.1; simpa using this) hj (by simpa using hN) hB
    have hbd := valid_bd hv
    have hlen : L.length ≤ 16 := hbd.2.2.2
    have hlen2 : L.length < 16 := by omega
    have hb := Blk.new W 60 (arr (pad L))
    have hj1 := hJ.alloc _ _ (.cells (arr (pad L)) 60) hj
    have hkp : KpT 60 W (W.alloc (.cells (arr (pad L)) 60)) := KpT.below ((Below.refl _ _).alloc (Nat.le_refl _) _)
    rw [allQ_up f m _ h0] at hN ⊢
    obtain ⟨T0, hT0⟩ : ∃ T0, T0 = min m (topQ L m) := ⟨_, rfl⟩
    rw [← hT0] at hN ⊢
    have htop : topQ L m ≤ 16 ∧ (0 < L.length → ((topQ L m : Nat) : Int) = L.getD (L.length - 1) 0) ∧ (L.length = 0 → topQ L m = m) := by
      unfold topQ
      by_cases hl0 : L.length = 0
      · rw [if_pos hl0]; exact ⟨by omega, fun h => by omega, fun _ => rfl⟩
      · rw [if_neg hl0]
        have := getD_nn hv (L.length - 1)
        exact ⟨by omega, fun _ => by omega, fun h => absurd h hl0⟩
    have hm0 : ((m : Int) == 0) = false := by simp; omega
    have HV := Lib.hid hv
    have HN := Lib.hid hN
    have HT := Lib.hid hT0
    have HTP := Lib.hid htop
    have HIH := Lib.hid ih
    clear hv hN ih hT0 htop
    -- the greatest part that may come
    have key : ∀ W1, W1 = W.alloc (.cells (arr (pad L)) 60) → True := fun _ _ => trivial
    clear key
    refine callsIn_of_wp Try.func73 rfl hf ?_ hro
    simp only [Try.ntmps73, List.size_toArray, List.length_cons, List.length_nil, Nat.reduceAdd, Nat.reduceSub, Array.replicate_succ, Array.replicate_zero, List.push_toArray, List.append_toArray, List.nil_append, List.cons_append]
    by_cases hl0 : L.length = 0
    · have e0 : T0 = m := by rw [HT.out, HTP.out.2.2 hl0]; omega
      have HE0 : Hid ((m : Int) = (T0 : Int)) := Lib.hid (by omega)
      have d1 : decide ((0 : Int) < (L.length : Int)) = false := decide_eq_false (by omega)
      have d1' : decide (0 < L.length) = false := decide_eq_false (by omega)
      clear e0
      have HL0 := Lib.hid hl0
      clear hl0
      gi_wp2
      gi_loopw [10] (fun v wr => ∃ (j : Nat) (xs : List (VLs S)) (D : List Int), j ≤ T0 ∧ v = .int .i64 ((T0 : Int) - (j : Int)) ∧ xs.map (·.1) = (upQ f m T0 j).map (L ++ ·) ∧ J (pre ++ xs) wr ∧ KpT 60 W wr ∧ Blk wr W.heap.size 60 (arr D) ∧ D.length = 16 ∧ (∀ p, D.set L.length p = (pad L).set L.length p)) (fun v _ => (intOf v).toNat)
      case atStart => exact ⟨0, [], pad L, Nat.zero_le _, by simp [HE0.out], by simp [upQ_zero], by simpa using hj1, hkp, hb, pad_len hlen, fun _ => rfl⟩
      case round =>
        obtain ⟨j, xs, D, hj, rfl, hxs, hJs, hks, hblk, hDl, hDs⟩ := hrel
        clear hb hj1 hkp
        by_cases hlt : j < T0
        · obtain ⟨p, hp⟩ : ∃ p : Nat, p = T0 - j := ⟨_, rfl⟩
          have hpv : (T0 : Int) - (j : Int) = (p : Int) := by omega
          have hp1 : 1 ≤ p := by omega
          have hT := HT.out
          have hpm : p ≤ m := by omega
          have hpt : 0 < L.length → (p : Int) ≤ L.getD (L.length - 1) 0 := fun h => by have := HTP.out.2.1 h; omega
          have hvp := valid_snoc HV.out (p := p) (m := m) hp1 (by omega) hpt
          have hset : D.set L.length (p : Int) = pad (L ++ [(p : Int)]) := by rw [hDs, pad_snoc hlen2]
          have hblk2 := hblk.set L.length (.int .i64 (p : Int))
          rw [arr_set, hset] at hblk2
          have hJ2 := hJ.cell _ _ _ L.length (.int .i64 (p : Int)) _ _ hJs hB hblk
          have hks2 := hks.setNew (i := L.length) (v := .int .i64 (p : Int)) (Nat.le_refl W.heap.size)
          have hcz : wr.cell? ⟨W.heap.size, L.length, none⟩ = some ((arr D)[L.length]?.getD undef) := by
            rw [hblk.cell L.length]
            have : L.length < (arr D).size := by rw [arr_size, hDl]; omega
            simp [this]
          have hfz : wr.frozen? ⟨W.heap.size, L.length, none⟩ = false := hblk.free _
          have hi16 : (Try.prog.info? 60).map (·.size) = some (arr (pad (L ++ [(p : Int)]))).size := by rw [arr_size, pad_len (valid_bd hvp).2.2.2]; exact T_info35
          have hup := upQ_succ f m T0 j hlt
          have hpi : T0 - 1 - j = p - 1 := by omega
          have hpc : pieceQ f m (p - 1) = (allQ f (m - p) p).map fun R => ((p : Nat) : Int) :: R := by unfold pieceQ; rw [show p - 1 + 1 = p by omega]
          have hle := upQ_leJ f m T0 (j := j + 1) (k := T0) hlt
          rw [hup, List.length_append, hpi, hpc, List.length_map] at hle
          have hxl : xs.length = (upQ f m T0 j).length := by have := congrArg List.length hxs; simpa using this
          have hih := HIH.out (L ++ [(p : Int)]) (m - p) (n - 1) (pre ++ xs) _ (by omega) hvp (by have := hs0.1; have := hs0.2; rw [sumL_append]; simp only [sumL]; omega) hJ2 (by rw [topQ_snoc, List.length_append]; have := HN.out; omega) (by have := hks2.size; omega)
          rw [topQ_snoc, show (((L ++ [(p : Int)]).length : Nat) : Int) = (L.length : Int) + 1 by simp, show ((m - p : Nat) : Int) = (m : Int) - (p : Int) by omega] at hih
          have hw1 : IntKind.i64.wrap ((L.length : Int) + 1) = (L.length : Int) + 1 := IntWalk.i64_in _ (by omega)
          have hw2 : IntKind.i64.wrap ((m : Int) - (p : Int)) = (m : Int) - (p : Int) := IntWalk.i64_in _ (by omega)
          have hw3 : IntKind.i64.wrap ((p : Int) - 1) = (p : Int) - 1 := IntWalk.i64_in _ (by omega)
          have hge : decide ((1 : Int) ≤ (p : Int)) = true := decide_eq_true (by omega)
          have hl16 : (L.length : Int) < 16 := by omega
          have HXS := Lib.hid hxs
          have HUP := Lib.hid hup
          have HSET := Lib.hid hset
          have HPC := Lib.hid hpc
          have HPI := Lib.hid hpi
          clear hxs hup hle hxl hset hpc hpi hJs hDs hT hp
          rw [hpv]
          gi_wp2_with (first
            | (refine wpListIn_load_row rfl 60 (.tmp 4) rfl W.heap.size rfl 60 (arr (pad (L ++ [(p : Int)]))) (0, 0) _ hblk2 Try.underlying60 rfl hi16 ?_)
            | ((try refine ⟨hdd _, ?_⟩); gi_at_call 73; refine hih.mono ?_; clear hih; rintro e W2 (⟨rfl, ⟨ys, hys, hJ3⟩, hk3⟩ | ⟨rfl, ys, hys, hx3⟩)))
          · go_roundw
            case rel =>
              refine ⟨j + 1, xs ++ ys, pad (L ++ [(p : Int)]), by omega, by congr 1; omega, ?_, by rw [← List.append_assoc]; exact hJ3, hks2.trans hk3, hk3.same _ _ _ hblk2, pad_len (valid_bd hvp).2.2.2, fun q => by rw [← pad_snoc hlen2, List.set_set]⟩
              rw [List.map_append, HXS.out, hys, HUP.out, List.map_append, HPI.out, HPC.out, List.map_map]
              congr 1
              apply List.map_congr_left
              intro R _
              simp
            case measure => simp [intOf]; omega
          · go_ret
            refine .inr ⟨rfl, xs ++ ys, ?_, by rw [← List.append_assoc]; exact hx3⟩
            have h1 : (upQ f m T0 (j + 1)).map (L ++ ·) <+: (upQ f m T0 T0).map (L ++ ·) := (upQ_pre f m T0 hlt).map _
            refine List.IsPrefix.trans ?_ h1
            rw [List.map_append, HXS.out, HUP.out, List.map_append, HPI.out, HPC.out, List.map_map]
            have e : (allQ f (m - p) p).map ((fun x => L ++ x) ∘ fun R => ((p : Nat) : Int) :: R) = (allQ f (m - p) p).map (fun R => (L ++ [(p : Int)]) ++ R) := by
              apply List.map_congr_left
              intro R _
              simp
            rw [e]
            exact (List.prefix_append_right_inj _).2 hys
        · obtain rfl : j = T0 := by omega
          have hpv : (j : Int) - (j : Int) = 0 := by omega
          rw [hpv]
          gi_wp2
          go_ret
          exact .inl ⟨rfl, ⟨xs, hxs, hJs⟩, hks⟩
    · have hlp : 0 < L.length := by omega
      have d1 : decide ((0 : Int) < (L.length : Int)) = true := decide_eq_true (by omega)
      have d1' : decide (0 < L.length) = true := decide_eq_true hlp
      have hl1 : L.length - 1 < (pad L).length := by rw [pad_len hlen]; omega
      have hcl : (W.alloc (.cells (arr (pad L)) 60)).cell? ⟨W.heap.size, L.length - 1, none⟩ = some (.int .i64 ((topQ L m : Nat) : Int)) := by
        rw [hb.cell, arr_get _ _ hl1, ← getD_lt hl1, pad_getD hlen, HTP.out.2.1 hlp]
      have hwl : IntKind.i64.wrap ((L.length : Int) - 1) = (L.length : Int) - 1 := IntWalk.i64_in _ (by omega)
      have hnn1 : (0 : Int) ≤ (L.length : Int) - 1 := by omega
      have hnn2 : (L.length : Int) - 1 < 16 := by omega
      have hnn3 : ((L.length : Int) - 1).toNat = L.length - 1 := by omega
      have HL0 := Lib.hid hl0
      clear hl0
      by_cases hcs : ((topQ L m : Nat) : Int) < (m : Int)
      · have hif : (((topQ L m : Nat) : Int) < (m : Int)) = True := by simpa using hcs
        have hif2 : (topQ L m < m) = True := by simp; omega
        have HE0 : Hid (((topQ L m : Nat) : Int) = (T0 : Int)) := Lib.hid (by rw [HT.out]; omega)
        clear hcs
        gi_wp2
        gi_loopw [10] (fun v wr => ∃ (j : Nat) (xs : List (VLs S)) (D : List Int), j ≤ T0 ∧ v = .int .i64 ((T0 : Int) - (j : Int)) ∧ xs.map (·.1) = (upQ f m T0 j).map (L ++ ·) ∧ J (pre ++ xs) wr ∧ KpT 60 W wr ∧ Blk wr W.heap.size 60 (arr D) ∧ D.length = 16 ∧ (∀ p, D.set L.length p = (pad L).set L.length p)) (fun v _ => (intOf v).toNat)
        case atStart => exact ⟨0, [], pad L, Nat.zero_le _, by simp [HE0.out], by simp [upQ_zero], by simpa using hj1, hkp, hb, pad_len hlen, fun _ => rfl⟩
        case round =>
          obtain ⟨j, xs, D, hj, rfl, hxs, hJs, hks, hblk, hDl, hDs⟩ := hrel
          clear hb hj1 hkp
          by_cases hlt : j < T0
          · obtain ⟨p, hp⟩ : ∃ p : Nat, p = T0 - j := ⟨_, rfl⟩
            have hpv : (T0 : Int) - (j : Int) = (p : Int) := by omega
            have hp1 : 1 ≤ p := by omega
            have hT := HT.out
            have hpm : p ≤ m := by omega
            have hpt : 0 < L.length → (p : Int) ≤ L.getD (L.length - 1) 0 := fun h => by have := HTP.out.2.1 h; omega
            have hvp := valid_snoc HV.out (p := p) (m := m) hp1 (by omega) hpt
            have hset : D.set L.length (p : Int) = pad (L ++ [(p : Int)]) := by rw [hDs, pad_snoc hlen2]
            have hblk2 := hblk.set L.length (.int .i64 (p : Int))
            rw [arr_set, hset] at hblk2
            have hJ2 := hJ.cell _ _ _ L.length (.int .i64 (p : Int)) _ _ hJs hB hblk
            have hks2 := hks.setNew (i := L.length) (v := .int .i64 (p : Int)) (Nat.le_refl W.heap.size)
            have hcz : wr.cell? ⟨W.heap.size, L.length, none⟩ = some ((arr D)[L.length]?.getD undef) := by
              rw [hblk.cell L.length]
              have : L.length < (arr D).size := by rw [arr_size, hDl]; omega
              simp [this]
            have hfz : wr.frozen? ⟨W.heap.size, L.length, none⟩ = false := hblk.free _
            have hi16 : (Try.prog.info? 60).map (·.size) = some (arr (pad (L ++ [(p : Int)]))).size := by rw [arr_size, pad_len (valid_bd hvp).2.2.2]; exact T_info35
            have hup := upQ_succ f m T0 j hlt
            have hpi : T0 - 1 - j = p - 1 := by omega
            have hpc : pieceQ f m (p - 1) = (allQ f (m - p) p).map fun R => ((p : Nat) : Int) :: R := by unfold pieceQ; rw [show p - 1 + 1 = p by omega]
            have hle := upQ_leJ f m T0 (j := j + 1) (k := T0) hlt
            rw [hup, List.length_append, hpi, hpc, List.length_map] at hle
            have hxl : xs.length = (upQ f m T0 j).length := by have := congrArg List.length hxs; simpa using this
            have hih := HIH.out (L ++ [(p : Int)]) (m - p) (n - 1) (pre ++ xs) _ (by omega) hvp (by have := hs0.1; have := hs0.2; rw [sumL_append]; simp only [sumL]; omega) hJ2 (by rw [topQ_snoc, List.length_append]; have := HN.out; omega) (by have := hks2.size; omega)
            rw [topQ_snoc, show (((L ++ [(p : Int)]).length : Nat) : Int) = (L.length : Int) + 1 by simp, show ((m - p : Nat) : Int) = (m : Int) - (p : Int) by omega] at hih
            have hw1 : IntKind.i64.wrap ((L.length : Int) + 1) = (L.length : Int) + 1 := IntWalk.i64_in _ (by omega)
            have hw2 : IntKind.i64.wrap ((m : Int) - (p : Int)) = (m : Int) - (p : Int) := IntWalk.i64_in _ (by omega)
            have hw3 : IntKind.i64.wrap ((p : Int) - 1) = (p : Int) - 1 := IntWalk.i64_in _ (by omega)
            have hge : decide ((1 : Int) ≤ (p : Int)) = true := decide_eq_true (by omega)
            have hl16 : (L.length : Int) < 16 := by omega
            have HXS := Lib.hid hxs
            have HUP := Lib.hid hup
            have HSET := Lib.hid hset
            have HPC := Lib.hid hpc
            have HPI := Lib.hid hpi
            clear hxs hup hle hxl hset hpc hpi hJs hDs hT hp
            rw [hpv]
            gi_wp2_with (first
              | (refine wpListIn_load_row rfl 60 (.tmp 4) rfl W.heap.size rfl 60 (arr (pad (L ++ [(p : Int)]))) (0, 0) _ hblk2 Try.underlying60 rfl hi16 ?_)
              | ((try refine ⟨hdd _, ?_⟩); gi_at_call 73; refine hih.mono ?_; clear hih; rintro e W2 (⟨rfl, ⟨ys, hys, hJ3⟩, hk3⟩ | ⟨rfl, ys, hys, hx3⟩)))
            · go_roundw
              case rel =>
                refine ⟨j + 1, xs ++ ys, pad (L ++ [(p : Int)]), by omega, by congr 1; omega, ?_, by rw [← List.append_assoc]; exact hJ3, hks2.trans hk3, hk3.same _ _ _ hblk2, pad_len (valid_bd hvp).2.2.2, fun q => by rw [← pad_snoc hlen2, List.set_set]⟩
                rw [List.map_append, HXS.out, hys, HUP.out, List.map_append, HPI.out, HPC.out, List.map_map]
                congr 1
                apply List.map_congr_left
                intro R _
                simp
              case measure => simp [intOf]; omega
            · go_ret
              refine .inr ⟨rfl, xs ++ ys, ?_, by rw [← List.append_assoc]; exact hx3⟩
              have h1 : (upQ f m T0 (j + 1)).map (L ++ ·) <+: (upQ f m T0 T0).map (L ++ ·) := (upQ_pre f m T0 hlt).map _
              refine List.IsPrefix.trans ?_ h1
              rw [List.map_append, HXS.out, HUP.out, List.map_append, HPI.out, HPC.out, List.map_map]
              have e : (allQ f (m - p) p).map ((fun x => L ++ x) ∘ fun R => ((p : Nat) : Int) :: R) = (allQ f (m - p) p).map (fun R => (L ++ [(p : Int)]) ++ R) := by
                apply List.map_congr_left
                intro R _
                simp
              rw [e]
              exact (List.prefix_append_right_inj _).2 hys
          · obtain rfl : j = T0 := by omega
            have hpv : (j : Int) - (j : Int) = 0 := by omega
            rw [hpv]
            gi_wp2
            go_ret
            exact .inl ⟨rfl, ⟨xs, hxs, hJs⟩, hks⟩
      · have hif : (((topQ L m : Nat) : Int) < (m : Int)) = False := by simpa using hcs
        have hif2 : (topQ L m < m) = False := by simp; omega
        have HE0 : Hid ((m : Int) = (T0 : Int)) := Lib.hid (by rw [HT.out]; omega)
        clear hcs
        gi_wp2
        gi_loopw [10] (fun v wr => ∃ (j : Nat) (xs : List (VLs S)) (D : List Int), j ≤ T0 ∧ v = .int .i64 ((T0 : Int) - (j : Int)) ∧ xs.map (·.1) = (upQ f m T0 j).map (L ++ ·) ∧ J (pre ++ xs) wr ∧ KpT 60 W wr ∧ Blk wr W.heap.size 60 (arr D) ∧ D.length = 16 ∧ (∀ p, D.set L.length p = (pad L).set L.length p)) (fun v _ => (intOf v).toNat)
        case atStart => exact ⟨0, [], pad L, Nat.zero_le _, by simp [HE0.out], by simp [upQ_zero], by simpa using hj1, hkp, hb, pad_len hlen, fun _ => rfl⟩
        case round =>
          obtain ⟨j, xs, D, hj, rfl, hxs, hJs, hks, hblk, hDl, hDs⟩ := hrel
          clear hb hj1 hkp
          by_cases hlt : j < T0
          · obtain ⟨p, hp⟩ : ∃ p : Nat, p = T0 - j := ⟨_, rfl⟩
            have hpv : (T0 : Int) - (j : Int) = (p : Int) := by omega
            have hp1 : 1 ≤ p := by omega
            have hT := HT.out
            have hpm : p ≤ m := by omega
            have hpt : 0 < L.length → (p : Int) ≤ L.getD (L.length - 1) 0 := fun h => by have := HTP.out.2.1 h; omega
            have hvp := valid_snoc HV.out (p := p) (m := m) hp1 (by omega) hpt
            have hset : D.set L.length (p : Int) = pad (L ++ [(p : Int)]) := by rw [hDs, pad_snoc hlen2]
            have hblk2 := hblk.set L.length (.int .i64 (p : Int))
            rw [arr_set, hset] at hblk2
            have hJ2 := hJ.cell _ _ _ L.length (.int .i64 (p : Int)) _ _ hJs hB hblk
            have hks2 := hks.setNew (i := L.length) (v := .int .i64 (p : Int)) (Nat.le_refl W.heap.size)
            have hcz : wr.cell? ⟨W.heap.size, L.length, none⟩ = some ((arr D)[L.length]?.getD undef) := by
              rw [hblk.cell L.length]
              have : L.length < (arr D).size := by rw [arr_size, hDl]; omega
              simp [this]
            have hfz : wr.frozen? ⟨W.heap.size, L.length, none⟩ = false := hblk.free _
            have hi16 : (Try.prog.info? 60).map (·.size) = some (arr (pad (L ++ [(p : Int)]))).size := by rw [arr_size, pad_len (valid_bd hvp).2.2.2]; exact T_info35
            have hup := upQ_succ f m T0 j hlt
            have hpi : T0 - 1 - j = p - 1 := by omega
            have hpc : pieceQ f m (p - 1) = (allQ f (m - p) p).map fun R => ((p : Nat) : Int) :: R := by unfold pieceQ; rw [show p - 1 + 1 = p by omega]
            have hle := upQ_leJ f m T0 (j := j + 1) (k := T0) hlt
            rw [hup, List.length_append, hpi, hpc, List.length_map] at hle
            have hxl : xs.length = (upQ f m T0 j).length := by have := congrArg List.length hxs; simpa using this
            have hih := HIH.out (L ++ [(p : Int)]) (m - p) (n - 1) (pre ++ xs) _ (by omega) hvp (by have := hs0.1; have := hs0.2; rw [sumL_append]; simp only [sumL]; omega) hJ2 (by rw [topQ_snoc, List.length_append]; have := HN.out; omega) (by have := hks2.size; omega)
            rw [topQ_snoc, show (((L ++ [(p : Int)]).length : Nat) : Int) = (L.length : Int) + 1 by simp, show ((m - p : Nat) : Int) = (m : Int) - (p : Int) by omega] at hih
            have hw1 : IntKind.i64.wrap ((L.length : Int) + 1) = (L.length : Int) + 1 := IntWalk.i64_in _ (by omega)
            have hw2 : IntKind.i64.wrap ((m : Int) - (p : Int)) = (m : Int) - (p : Int) := IntWalk.i64_in _ (by omega)
            have hw3 : IntKind.i64.wrap ((p : Int) - 1) = (p : Int) - 1 := IntWalk.i64_in _ (by omega)
            have hge : decide ((1 : Int) ≤ (p : Int)) = true := decide_eq_true (by omega)
            have hl16 : (L.length : Int) < 16 := by omega
            have HXS := Lib.hid hxs
            have HUP := Lib.hid hup
            have HSET := Lib.hid hset
            have HPC := Lib.hid hpc
            have HPI := Lib.hid hpi
            clear hxs hup hle hxl hset hpc hpi hJs hDs hT hp
            rw [hpv]
            gi_wp2_with (first
              | (refine wpListIn_load_row rfl 60 (.tmp 4) rfl W.heap.size rfl 60 (arr (pad (L ++ [(p : Int)]))) (0, 0) _ hblk2 Try.underlying60 rfl hi16 ?_)
              | ((try refine ⟨hdd _, ?_⟩); gi_at_call 73; refine hih.mono ?_; clear hih; rintro e W2 (⟨rfl, ⟨ys, hys, hJ3⟩, hk3⟩ | ⟨rfl, ys, hys, hx3⟩)))
            · go_roundw
              case rel =>
                refine ⟨j + 1, xs ++ ys, pad (L ++ [(p : Int)]), by omega, by congr 1; omega, ?_, by rw [← List.append_assoc]; exact hJ3, hks2.trans hk3, hk3.same _ _ _ hblk2, pad_len (valid_bd hvp).2.2.2, fun q => by rw [← pad_snoc hlen2, List.set_set]⟩
                rw [List.map_append, HXS.out, hys, HUP.out, List.map_append, HPI.out, HPC.out, List.map_map]
                congr 1
                apply List.map_congr_left
                intro R _
                simp
              case measure => simp [intOf]; omega
            · go_ret
              refine .inr ⟨rfl, xs ++ ys, ?_, by rw [← List.append_assoc]; exact hx3⟩
              have h1 : (upQ f m T0 (j + 1)).map (L ++ ·) <+: (upQ f m T0 T0).map (L ++ ·) := (upQ_pre f m T0 hlt).map _
              refine List.IsPrefix.trans ?_ h1
              rw [List.map_append, HXS.out, HUP.out, List.map_append, HPI.out, HPC.out, List.map_map]
              have e : (allQ f (m - p) p).map ((fun x => L ++ x) ∘ fun R => ((p : Nat) : Int) :: R) = (allQ f (m - p) p).map (fun R => (L ++ [(p : Int)]) ++ R) := by
                apply List.map_congr_left
                intro R _
                simp
              rw [e]
              exact (List.prefix_append_right_inj _).2 hys
          · obtain rfl : j = T0 := by omega
            have hpv : (j : Int) - (j : Int) = 0 := by omega
            rw [hpv]
            gi_wp2
            go_ret
            exact .inl ⟨rfl, ⟨xs, hxs, hJs⟩, hks⟩
set_option maxRecDepth 100000 in
set_option maxHeartbeats 2000000 in
theorem dwithS_seq (F : Fence) (hd : F.depth = none) (hf : F.fn 73) (hf1 : F.fn 72) (hro : F.round = none) (n k Bn : Nat) (hk : k ≤ 16) (w : World) (hBn : Bn < w.heap.size) (hc : w.cell? ⟨Bn, 0, none⟩ = some (.int .i64 k)) :
    SeqT F n Try.prog 60 72 #[.pointer (some ⟨Bn, 0, none⟩)] (fun x : VLs (k : Int) => #[.agg (arr (pad x.1))]) (fun xs => xs.map (·.1) = allQ k k k) (fun xs => xs.map (·.1) <+: allQ k k k) (allQ k k k).length w := by
  intro l J Jx W hW hJ hJx hY h0
  have hdd : ∀ k : Nat, (F.depth.isSome = true → 1 ≤ k) := fun k h => by rw [hd] at h; cases h
  have hcW : W.cell? ⟨Bn, 0, none⟩ = some (.int .i64 k) := (hW.cell (p := ⟨Bn, 0, none⟩) hBn).trans hc
  have hp := dfromS_in (k : Int) F hd hf hro l W.heap.size (allQ k k k).length J Jx hJ hJx (fun m pre x W1 hj hl => yieldAt_any hd m (hY pre x W1 hj hl)) k [] k (n - 1) [] W (Nat.le_refl _) rfl ⟨by simp [sumL], by omega⟩ h0 (by rw [topQ_nil]; simp) (Nat.le_refl _)
  rw [topQ_nil] at hp
  have hz : arr (pad []) = #[.int .i64 0, .int .i64 0, .int .i64 0, .int .i64 0, .int .i64 0, .int .i64 0, .int .i64 0, .int .i64 0, .int .i64 0, .int .i64 0, .int .i64 0, .int .i64 0, .int .i64 0, .int .i64 0, .int .i64 0, .int .i64 0] := rfl
  rw [hz] at hp
  simp only [List.length_nil] at hp
  refine callsIn_of_wp Try.func72 rfl hf1 ?_ hro
  simp only [Try.ntmps72, List.size_toArray, List.length_cons, List.length_nil, Nat.reduceAdd, Nat.reduceSub, Array.replicate_succ, Array.replicate_zero, List.push_toArray, List.append_toArray, List.nil_append, List.cons_append]
  gi_wp2_with ((try refine ⟨hdd _, ?_⟩); gi_at_call 73; refine hp.mono ?_; clear hp; rintro e W1 (⟨rfl, ⟨xs, hxs, hJ1⟩, _⟩ | ⟨rfl, xs, hxs, hx⟩))
  · go_end0
    exact ⟨⟨_, rfl⟩, .inl ⟨xs, by simpa using hxs, by simpa using hJ1⟩⟩
  · go_end0
    exact ⟨⟨_, rfl⟩, .inr ⟨xs, by simpa using hxs, by simpa using hx⟩⟩

end Go.Proofs.Ytgkghebjaedjmaa
namespace Go.Proofs.Ytgkghebjaedjmaa
open Go.RowKit
set_option maxRecDepth 8000

/-- a value reads as a list of numbers -/
def Inn (w : World) (B : Nat) (v : Value) (L : List Int) : Prop := ∃ a c, v = .slice a L.length c ∧ Rd w B a (ints L) ∧ L.length ≤ c
def RdLL (w : World) (B : Nat) (a : Option Addr) (LL : List (List Int)) : Prop :=
  ∃ vs, Rd w B a vs ∧ vs.length = LL.length ∧ ∀ (k : Nat) v L, vs[k]? = some v → LL[k]? = some L → Inn w B v L

theorem Inn.below {w w' : World} {B : Nat} {v : Value} {L : List Int} (h : Inn w B v L) (hb : Below B w w') : Inn w' B v L := by
  obtain ⟨a, c, rfl, h1, h2⟩ := h
  exact ⟨a, c, rfl, h1.below hb, h2⟩
theorem Inn.more {w : World} {B B' : Nat} {v : Value} {L : List Int} (h : Inn w B v L) (hB : B ≤ B') : Inn w B' v L := by
  obtain ⟨a, c, rfl, h1, h2⟩ := h
  exact ⟨a, c, rfl, h1.more hB, h2⟩
theorem RdLL.below {w w' : World} {B : Nat} {a : Option Addr} {LL : List (List Int)} (h : RdLL w B a LL) (hb : Below B w w') : RdLL w' B a LL := by
  obtain ⟨vs, h1, h2, h3⟩ := h
  exact ⟨vs, h1.below hb, h2, fun k v L hv hL => (h3 k v L hv hL).below hb⟩
theorem RdLL.more {w : World} {B B' : Nat} {a : Option Addr} {LL : List (List Int)} (h : RdLL w B a LL) (hB : B ≤ B') : RdLL w B' a LL := by
  obtain ⟨vs, h1, h2, h3⟩ := h
  exact ⟨vs, h1.more hB, h2, fun k v L hv hL => (h3 k v L hv hL).more hB⟩
theorem RdLL.dr {w w' : World} {B : Nat} {a : Option Addr} {LL : List (List Int)} (h : RdLL w B a LL) (hb : Dr w w') : RdLL w' B a LL := h.below (hb.below B)
/-- the k-th list -/
theorem RdLL.at_ {w : World} {B : Nat} {a : Option Addr} {LL : List (List Int)} (h : RdLL w B a LL) {k : Nat} (hk : k < LL.length) :
    ∃ b o a' c', a = some ⟨b, o, none⟩ ∧ b < B ∧ w.cell? ⟨b, o + k, none⟩ = some (.slice a' LL[k].length c') ∧ Rd w B a' (ints LL[k]) ∧ LL[k].length ≤ c' := by
  obtain ⟨vs, h1, h2, h3⟩ := h
  have hkv : k < vs.length := by omega
  obtain ⟨b, o, rfl, hb, hc⟩ := h1 (by intro e; subst e; simp at hkv)
  obtain ⟨a', c', e, hr, hl⟩ := h3 k vs[k] LL[k] (List.getElem?_eq_getElem hkv) (List.getElem?_eq_getElem hk)
  exact ⟨b, o, a', c', rfl, hb, by rw [hc k vs[k] (List.getElem?_eq_getElem hkv), e], hr, hl⟩

/-- the outer block and each list's block are the call's own, and no two are one -/
structure OwnLL (w : World) (lo hi : Nat) (eo e : TypeId) (v : Value) (vs : List Value) (LL : List (List Int)) : Prop where
  outer : Own w lo hi eo v vs
  len : vs.length = LL.length
  inner : ∀ (k : Nat) u L, vs[k]? = some u → LL[k]? = some L → Own w lo hi e u (ints L)
  apartO : ∀ (k : Nat) u g, vs[k]? = some u → u.ownBlock = some g → v.ownBlock ≠ some g
  apart : ∀ (j k : Nat) u u' g, vs[j]? = some u → vs[k]? = some u' → u.ownBlock = some g → u'.ownBlock = some g → j = k

theorem OwnLL.below {w w' : World} {lo hi : Nat} {eo e : TypeId} {v : Value} {vs : List Value} {LL : List (List Int)} (h : OwnLL w lo hi eo e v vs LL) (hb : Below hi w w') : OwnLL w' lo hi eo e v vs LL :=
  ⟨h.outer.below hb, h.len, fun k u L hu hL => (h.inner k u L hu hL).below hb, h.apartO, h.apart⟩
theorem OwnLL.lower {w : World} {lo lo' hi : Nat} {eo e : TypeId} {v : Value} {vs : List Value} {LL : List (List Int)} (h : OwnLL w lo hi eo e v vs LL) (hl : lo' ≤ lo) : OwnLL w lo' hi eo e v vs LL :=
  ⟨h.outer.lower hl, h.len, fun k u L hu hL => (h.inner k u L hu hL).lower hl, h.apartO, h.apart⟩
theorem OwnLL.more {w : World} {lo hi : Nat} {eo e : TypeId} {v : Value} {vs : List Value} {LL : List (List Int)} (h : OwnLL w lo hi eo e v vs LL) : OwnLL w lo w.heap.size eo e v vs LL :=
  ⟨h.outer.more, h.len, fun k u L hu hL => (h.inner k u L hu hL).more, h.apartO, h.apart⟩
theorem OwnLL.le {w : World} {lo hi : Nat} {eo e : TypeId} {v : Value} {vs : List Value} {LL : List (List Int)} (h : OwnLL w lo hi eo e v vs LL) : hi ≤ w.heap.size := h.outer.le
theorem OwnLL.form {w : World} {lo hi : Nat} {eo e : TypeId} {v : Value} {vs : List Value} {LL : List (List Int)} (h : OwnLL w lo hi eo e v vs LL) : ∃ a c, v = .slice a LL.length c := by
  obtain ⟨a, c, hv⟩ := h.outer.form
  exact ⟨a, c, by rw [← h.len]; exact hv⟩
theorem OwnLL.empty (w : World) (eo e : TypeId) : OwnLL (w.alloc (.cells #[] eo)) w.heap.size (w.heap.size + 1) eo e (.slice (some ⟨w.heap.size, 0, none⟩) 0 0) [] [] :=
  ⟨Own.empty w eo, rfl, fun k u L hu => by simp at hu, fun k u g hu => by simp at hu, fun j k u u' g hu => by simp at hu⟩
theorem OwnLL.nil (w : World) (lo : Nat) (eo e : TypeId) : OwnLL w lo w.heap.size eo e (.slice none 0 0) [] [] :=
  ⟨Own.nil w lo eo, rfl, fun k u L hu => by simp at hu, fun k u g hu => by simp at hu, fun j k u u' g hu => by simp at hu⟩
theorem OwnLL.rd {w : World} {lo hi : Nat} {eo e : TypeId} {a : Option Addr} {n c : Nat} {vs : List Value} {LL : List (List Int)} (h : OwnLL w lo hi eo e (.slice a n c) vs LL) : RdLL w hi a LL := by
  refine ⟨vs, h.outer.rd, h.len, fun k u L hu hL => ?_⟩
  have hi' := h.inner k u L hu hL
  obtain ⟨a', c', rfl⟩ := hi'.form
  refine ⟨a', c', by rw [List.length_map], hi'.rd, ?_⟩
  rcases Nat.eq_zero_or_pos L.length with h0 | h0
  · omega
  · obtain ⟨g, c2, e2, hc⟩ := hi'.formN (by simpa using h0)
    injection e2 with _ _ e3
    rw [List.length_map] at hc
    omega
/-- one list more, its block beyond all that there was: the outer list anew or in its place -/
theorem OwnLL.push {w w' : World} {lo hi hi' : Nat} {eo e : TypeId} {v v' u : Value} {vs : List Value} {LL : List (List Int)} {L : List Int} (h : OwnLL w lo hi eo e v vs LL)
    (ho : Own w' lo hi' eo v' (vs ++ [u])) (hin : ∀ (k : Nat) u L, vs[k]? = some u → LL[k]? = some L → Own w' lo hi' e u (ints L)) (hu : Own w' lo hi' e u (ints L))
    (h1 : ∀ g, u.ownBlock = some g → v'.ownBlock ≠ some g) (h2 : ∀ (k : Nat) x g, vs[k]? = some x → x.ownBlock = some g → v'.ownBlock ≠ some g ∧ u.ownBlock ≠ some g) : OwnLL w' lo hi' eo e v' (vs ++ [u]) (LL ++ [L]) := by
  have hl := h.len
  refine ⟨ho, by simp [hl], fun k x M hx hM => ?_, fun k x g hx hg => ?_, fun j k x y g hx hy hgx hgy => ?_⟩
  · by_cases hk : k < vs.length
    · rw [List.getElem?_append_left hk] at hx
      rw [List.getElem?_append_left (by omega)] at hM
      exact hin k x M hx hM
    · rw [List.getElem?_append_right (by omega)] at hx
      rw [List.getElem?_append_right (by omega)] at hM
      have e0 : k - vs.length = 0 := by
        rcases Nat.eq_zero_or_pos (k - vs.length) with z | z
        · exact z
        · rw [List.getElem?_eq_none (by simp only [List.length_singleton]; omega)] at hx; cases hx
      rw [e0] at hx
      rw [← hl, e0] at hM
      cases hx; cases hM
      exact hu
  · by_cases hk : k < vs.length
    · rw [List.getElem?_append_left hk] at hx
      exact (h2 k x g hx hg).1
    · rw [List.getElem?_append_right (by omega)] at hx
      have e0 : k - vs.length = 0 := by
        rcases Nat.eq_zero_or_pos (k - vs.length) with z | z
        · exact z
        · rw [List.getElem?_eq_none (by simp only [List.length_singleton]; omega)] at hx; cases hx
      rw [e0] at hx
      cases hx
      exact h1 g hg
  · have last : ∀ i, ¬ i < vs.length → ∀ z, (vs ++ [u])[i]? = some z → i = vs.length ∧ z = u := fun i hi z hz => by
      rw [List.getElem?_append_right (by omega)] at hz
      have e0 : i - vs.length = 0 := by
        rcases Nat.eq_zero_or_pos (i - vs.length) with q | q
        · exact q
        · rw [List.getElem?_eq_none (by simp only [List.length_singleton]; omega)] at hz; cases hz
      rw [e0] at hz
      cases hz
      exact ⟨by omega, rfl⟩
    by_cases hj : j < vs.length
    · rw [List.getElem?_append_left hj] at hx
      by_cases hk : k < vs.length
      · rw [List.getElem?_append_left hk] at hy
        exact h.apart j k x y g hx hy hgx hgy
      · obtain ⟨_, rfl⟩ := last k hk y hy
        exact absurd hgy (h2 j x g hx hgx).2
    · obtain ⟨hj2, rfl⟩ := last j hj x hx
      by_cases hk : k < vs.length
      · rw [List.getElem?_append_left hk] at hy
        exact absurd hgx (h2 k y g hy hgy).2
      · obtain ⟨hk2, _⟩ := last k hk y hy
        omega
/-- one list more by append: its block was made behind the outer list's -/
theorem OwnLL.append {w w' : World} {lo hi lou hiu : Nat} {eo e : TypeId} {v v' u : Value} {vs : List Value} {LL : List (List Int)} {L : List Int} (h : OwnLL w lo hi eo e v vs LL)
    (hu : Own w lou hiu e u (ints L)) (hlou : hi ≤ lou) (hlo : lo ≤ lou) (ho : Own w' lo w'.heap.size eo v' (vs ++ [u])) (hg : w.grownBy w' v.ownBlock) (hat : v'.ownBlock = v.ownBlock ∨ v'.ownBlock = some w.heap.size) :
    OwnLL w' lo w'.heap.size eo e v' (vs ++ [u]) (LL ++ [L]) := by
  have hL : ∀ (k : Nat) x g, vs[k]? = some x → x.ownBlock = some g → g < hi := fun k x g hx hgx => by
    have hkv := (List.getElem?_eq_some_iff.1 hx).1
    have hkl : k < LL.length := by rw [← h.len]; exact hkv
    exact (h.inner k x LL[k] hx (List.getElem?_eq_getElem hkl)).lt g hgx
  refine h.push ho (fun k x M hx hM => ?_) ?_ (fun g hgu hv => ?_) (fun k x g hx hgx => ⟨fun hv => ?_, fun hgu => ?_⟩)
  · have hk := h.inner k x M hx hM
    refine (hk.grown hg ?_).more
    cases hb : x.ownBlock with
    | none => exact .inl rfl
    | some g => exact .inr fun e => h.apartO k x g hx hb e.symm
  · refine ((hu.grown hg ?_).more).lower hlo
    cases hb : u.ownBlock with
    | none => exact .inl rfl
    | some g => exact .inr fun e => by have h1 := hu.base g hb; have h2 := h.outer.lt g e.symm; omega
  · have h1 := hu.base g hgu
    rcases hat with e | e
    · have h2 := h.outer.lt g (e ▸ hv); omega
    · rw [e] at hv; cases hv; have h2 := hu.lt _ hgu; have h3 := hu.le; omega
  · rcases hat with e | e
    · exact h.apartO k x g hx hgx (e ▸ hv)
    · rw [e] at hv; cases hv; have h2 := hL k x _ hx hgx; have h3 := h.le; omega
  · have h1 := hu.base g hgu; have h2 := hL k x g hx hgx; omega
/-- the k-th list, its block and its place -/
theorem OwnLL.at_ {w : World} {lo hi : Nat} {eo e : TypeId} {a : Option Addr} {n c : Nat} {vs : List Value} {LL : List (List Int)} (h : OwnLL w lo hi eo e (.slice a n c) vs LL) {k : Nat} (hk : k < LL.length) :
    ∃ g a' c', a = some ⟨g, 0, none⟩ ∧ lo ≤ g ∧ g < hi ∧ w.cell? ⟨g, k, none⟩ = some (.slice a' LL[k].length c') ∧ Own w lo hi e (.slice a' LL[k].length c') (ints LL[k]) ∧ vs[k]? = some (.slice a' LL[k].length c') := by
  have hkv : k < vs.length := by rw [h.len]; exact hk
  obtain ⟨g, c1, e1, h1, h2, h3, _⟩ := h.outer.at_ hkv
  injection e1 with e1 _ _
  have hi' := h.inner k vs[k] LL[k] (List.getElem?_eq_getElem hkv) (List.getElem?_eq_getElem hk)
  obtain ⟨a', c', e2⟩ := hi'.form
  rw [List.length_map] at e2
  exact ⟨g, a', c', e1, h1, h2, by rw [h3, e2], e2 ▸ hi', by rw [List.getElem?_eq_getElem hkv, e2]⟩
/-- one list written anew in its place -/
theorem OwnLL.setIn {w w' : World} {lo hi : Nat} {eo e : TypeId} {v u : Value} {vs : List Value} {LL : List (List Int)} {L : List Int} (h : OwnLL w lo hi eo e v vs LL) {k : Nat} (hk : vs[k]? = some u)
    (hg : w.grownBy w' u.ownBlock) (hu : Own w' lo hi e u (ints L)) : OwnLL w' lo hi eo e v vs (LL.set k L) := by
  have hv : v.ownBlock = none ∨ v.ownBlock ≠ u.ownBlock := by
    cases hb : v.ownBlock with
    | none => exact .inl rfl
    | some g => exact .inr fun e => h.apartO k u g hk e.symm hb
  refine ⟨h.outer.grown hg hv, by rw [List.length_set]; exact h.len, fun j x M hx hM => ?_, h.apartO, h.apart⟩
  rw [List.getElem?_set] at hM
  by_cases hj : k = j
  · subst hj
    rw [if_pos rfl] at hM
    split at hM
    · cases hM
      obtain rfl : x = u := by rw [hk] at hx; cases hx; rfl
      exact hu
    · cases hM
  · rw [if_neg hj] at hM
    refine (h.inner j x M hx hM).grown hg ?_
    cases hb : x.ownBlock with
    | none => exact .inl rfl
    | some g => exact .inr fun e => hj (h.apart k j u x g hk hx e.symm hb)
/-- the marks of lists, one behind another -/
def marksLL (m : Int) : List (List Int) → List (List Int)
  | [] => []
  | L :: R => ((List.range L.length).map fun (j : Nat) => m + (j : Int)) :: marksLL (m + (L.length : Int)) R
def cntLL (LL : List (List Int)) : Nat := (LL.map List.length).sum
theorem cntLL_append (A : List (List Int)) (L : List Int) : cntLL (A ++ [L]) = cntLL A + L.length := by simp [cntLL]
theorem marksLL_append (m : Int) (A : List (List Int)) (L : List Int) : marksLL m (A ++ [L]) = marksLL m A ++ [(List.range L.length).map fun (j : Nat) => (m + (cntLL A : Int)) + (j : Int)] := by
  induction A generalizing m with
  | nil => simp [marksLL, cntLL]
  | cons x R ih =>
    have e : m + (x.length : Int) + (cntLL R : Int) = m + (cntLL (x :: R) : Int) := by simp [cntLL]; omega
    show _ :: marksLL (m + (x.length : Int)) (R ++ [L]) = _
    rw [ih, e]
    rfl
theorem marksLL_len (m : Int) (A : List (List Int)) : (marksLL m A).length = A.length := by
  induction A generalizing m with
  | nil => rfl
  | cons x R ih => simp [marksLL, ih]
theorem cntLL_take (LL : List (List Int)) (k : Nat) : cntLL (LL.take k) ≤ cntLL LL := by
  induction LL generalizing k with
  | nil => simp [cntLL]
  | cons x R ih =>
    cases k with
    | zero => simp [cntLL]
    | succ k => have := ih k; simp [cntLL] at this ⊢; omega
/-- one list more is marked -/
theorem marksLL_set (m : Int) {LL : List (List Int)} {k : Nat} (hk : k < LL.length) :
    (marksLL m (LL.take k) ++ LL.drop k).set k ((List.range LL[k].length).map fun (j : Nat) => (m + (cntLL (LL.take k) : Int)) + (j : Int)) = marksLL m (LL.take (k + 1)) ++ LL.drop (k + 1) := by
  have e1 : (marksLL m (LL.take k)).length = k := by rw [marksLL_len, List.length_take]; omega
  rw [List.drop_eq_getElem_cons hk, List.set_append_right _ _ (by omega), e1, Nat.sub_self, List.set_cons_zero, List.take_succ_eq_append_getElem hk, marksLL_append]
  simp
theorem marksLL_get (m : Int) (LL : List (List Int)) (k : Nat) (hk : k < LL.length) (hh : k < (marksLL m LL).length) :
    (marksLL m LL)[k] = (List.range LL[k].length).map fun (j : Nat) => (m + (cntLL (LL.take k) : Int)) + (j : Int) := by
  induction LL generalizing m k with
  | nil => simp at hk
  | cons x R ih =>
    cases k with
    | zero => simp [marksLL, cntLL]
    | succ k =>
      have h2 : k < (marksLL (m + (x.length : Int)) R).length := by rw [marksLL_len]; simpa using hk
      have := ih (m + (x.length : Int)) k (by simpa using hk) h2
      have e : m + (x.length : Int) + (cntLL (R.take k) : Int) = m + (cntLL ((x :: R).take (k + 1)) : Int) := by simp [cntLL]; omega
      rw [e] at this
      exact this
theorem OwnLL.lt {w : World} {lo hi : Nat} {eo e : TypeId} {v : Value} {vs : List Value} {LL : List (List Int)} (h : OwnLL w lo hi eo e v vs LL) {k : Nat} {x : Value} {g : Nat} (hx : vs[k]? = some x) (hg : x.ownBlock = some g) : lo ≤ g ∧ g < hi := by
  have hkv := (List.getElem?_eq_some_iff.1 hx).1
  have hkl : k < LL.length := by rw [← h.len]; exact hkv
  have hi' := h.inner k x LL[k] hx (List.getElem?_eq_getElem hkl)
  exact ⟨hi'.base g hg, hi'.lt g hg⟩
/-- many lists more by append: theirs were made behind the outer list's -/
theorem OwnLL.appendAll {w w' : World} {lo hi lox hix : Nat} {eo e : TypeId} {v v' vx : Value} {vs vsx : List Value} {LL LLx : List (List Int)} (h : OwnLL w lo hi eo e v vs LL)
    (hx : OwnLL w lox hix eo e vx vsx LLx) (hd : hi ≤ lox) (hlo : lo ≤ lox) (ho : Own w' lo w'.heap.size eo v' (vs ++ vsx)) (hg : w.grownBy w' v.ownBlock) (hat : v'.ownBlock = v.ownBlock ∨ v'.ownBlock = some w.heap.size) :
    OwnLL w' lo w'.heap.size eo e v' (vs ++ vsx) (LL ++ LLx) := by
  have hl := h.len
  have L1 : ∀ {k : Nat} {x : Value} {g : Nat}, vs[k]? = some x → x.ownBlock = some g → lo ≤ g ∧ g < hi := fun a b => h.lt a b
  have L2 : ∀ {k : Nat} {x : Value} {g : Nat}, vsx[k]? = some x → x.ownBlock = some g → lox ≤ g ∧ g < hix := fun a b => hx.lt a b
  have hle := h.le
  have hlx := hx.le
  refine ⟨ho, by simp [hl, hx.len], fun k x M hk hM => ?_, fun k x g hk hgx hv => ?_, fun j k x y g hj hk hgx hgy => ?_⟩
  · by_cases hkv : k < vs.length
    · rw [List.getElem?_append_left hkv] at hk
      rw [List.getElem?_append_left (by omega)] at hM
      refine ((h.inner k x M hk hM).grown hg ?_).more
      cases hb : x.ownBlock with
      | none => exact .inl rfl
      | some g => exact .inr fun e => h.apartO k x g hk hb e.symm
    · rw [List.getElem?_append_right (by omega)] at hk
      rw [List.getElem?_append_right (by omega), ← hl] at hM
      refine (((hx.inner _ x M hk hM).grown hg ?_).more).lower hlo
      cases hb : x.ownBlock with
      | none => exact .inl rfl
      | some g => exact .inr fun e => by have h1 := L2 hk hb; have h2 := h.outer.lt g e.symm; omega
  · by_cases hkv : k < vs.length
    · rw [List.getElem?_append_left hkv] at hk
      rcases hat with e | e
      · exact h.apartO k x g hk hgx (e ▸ hv)
      · rw [e] at hv; cases hv; have h2 := L1 hk hgx; omega
    · rw [List.getElem?_append_right (by omega)] at hk
      have h2 := L2 hk hgx
      rcases hat with e | e
      · have h1 := h.outer.lt g (e ▸ hv); omega
      · rw [e] at hv; cases hv; omega
  · by_cases hjv : j < vs.length
    · rw [List.getElem?_append_left hjv] at hj
      by_cases hkv : k < vs.length
      · rw [List.getElem?_append_left hkv] at hk
        exact h.apart j k x y g hj hk hgx hgy
      · rw [List.getElem?_append_right (by omega)] at hk
        have h1 := L1 hj hgx; have h2 := L2 hk hgy; omega
    · rw [List.getElem?_append_right (by omega)] at hj
      by_cases hkv : k < vs.length
      · rw [List.getElem?_append_left hkv] at hk
        have h1 := L2 hj hgx; have h2 := L1 hk hgy; omega
      · rw [List.getElem?_append_right (by omega)] at hk
        have := hx.apart _ _ x y g hj hk hgx hgy
        omega
theorem Own.single (w : World) (u : Value) (e : TypeId) : Own (w.alloc (.cells #[u] e)) w.heap.size (w.heap.size + 1) e (.slice (some ⟨w.heap.size, 0, none⟩) 1 1) [u] :=
  ⟨⟨rfl, .inr ⟨w.heap.size, 1, #[u], rfl, Nat.le_refl _, heap_alloc_new w _, Nat.le_refl _, by decide, rfl, rfl⟩⟩, fun g hg => by simp [Value.ownBlock] at hg; omega, by simp⟩
/-- a list of one list -/
theorem OwnLL.single {w : World} {lo hi : Nat} {eo e : TypeId} {u : Value} {L : List Int} (hu : Own w lo hi e u (ints L)) (hlo : lo ≤ w.heap.size) :
    OwnLL (w.alloc (.cells #[u] eo)) lo (w.heap.size + 1) eo e (.slice (some ⟨w.heap.size, 0, none⟩) 1 1) [u] [L] := by
  have hle := hu.le
  have one : ∀ (k : Nat) x, [u][k]? = some x → k = 0 ∧ x = u := fun k x hx => by
    match k, hx with
    | 0, hx => simp at hx; exact ⟨rfl, hx.symm⟩
  refine ⟨(Own.single w u eo).lower hlo, rfl, fun k x M hx hM => ?_, fun k x g hx hg hv => ?_, fun j k x y g hx hy _ _ => ?_⟩
  · obtain ⟨rfl, rfl⟩ := one k x hx
    simp at hM
    subst hM
    have h := hu.alloc (.cells #[x] eo)
    exact ⟨h.row, fun g hg => by have := h.lt g hg; omega, by simp⟩
  · obtain ⟨rfl, rfl⟩ := one k x hx
    have := hu.lt g hg
    simp [Value.ownBlock] at hv
    omega
  · rw [(one j x hx).1, (one k y hy).1]
end Go.Proofs.Ytgkghebjaedjmaa
namespace Go.Proofs.Ytgkghebjaedjmaa
open Go.RowKit NP
set_option maxRecDepth 8000
/-- a function value that tells of each diagram of parts whether K holds of them, in every later world -/
def IsK (w : World) (v : Value) (K : List Int → Bool) : Prop := ∃ (f : Nat) (p c : Array Value), v = .func (.func f) p c ∧ (∀ (args : Array Value) (w : World), (callFunc f args).run Try.prog w = .ok (.enter f args) w) ∧ ∀ w1, Below w.heap.size w w1 → ∀ L, valid L = true →
  Calls Try.prog f (p.push (.agg (arr (pad L))) ++ c) w1 fun e w2 => e = .returned (.bool (K L)) ∧ Below w1.heap.size w1 w2
end Go.Proofs.Ytgkghebjaedjmaa
namespace Go.Proofs.Ytgkghebjaedjmaa
open Go.RowKit Go.Shelf NP
set_option maxRecDepth 8000
set_option linter.unusedVariables false
set_option linter.unusedSimpArgs false
attribute [local go_sem] Oper.semAt_some
section
variable {w w' : World} {lo hi : Nat} {eo e : TypeId} {v : Value} {vs : List Value}
theorem Own.stay (h : Own w lo hi e v vs) (hs : w.heap.size ≤ w'.heap.size) (hk : ∀ (g : Nat) (cs : Array Value), w.heap[g]? = some (.cells cs e (0, 0)) → w'.heap[g]? = w.heap[g]?) : Own w' lo hi e v vs :=
  h.keep hs fun g hg => by
    rcases h.row.2 with ⟨h1, _⟩ | ⟨g', cap, cur, h1, _, hb, _⟩
    · rw [h1] at hg; simp [Value.ownBlock] at hg
    · rw [h1] at hg
      simp [Value.ownBlock] at hg
      subst hg
      exact hk _ _ hb
theorem OwnLL.stay {LL : List (List Int)} (h : OwnLL w lo hi eo e v vs LL) (hs : w.heap.size ≤ w'.heap.size) (hk : ∀ (g : Nat) (cs : Array Value), w.heap[g]? = some (.cells cs eo (0, 0)) → w'.heap[g]? = w.heap[g]?) (hk2 : ∀ (g : Nat) (cs : Array Value), w.heap[g]? = some (.cells cs e (0, 0)) → w'.heap[g]? = w.heap[g]?) : OwnLL w' lo hi eo e v vs LL :=
  ⟨h.outer.stay hs hk, h.len, fun k u L hu hL => (h.inner k u L hu hL).stay hs hk2, h.apartO, h.apart⟩
end
theorem opIn_val {F : Fence} {n : Nat} {P : Program} {o : Oper} {a : Act} {w w' : World} {K : Act → World → Prop} {Q : Exit → Act → World → Prop} {v : Value} (hab : o.about P w a.eval = none)
    (h : (o.semAt F.round a.eval).run P w = .ok (.value v) w') (hK : K (a.put o.dst v) w') : o.wpIn F n P a w K Q :=
  ⟨fun f hf => (by rw [hab] at hf; cases hf), (by rw [h]; exact hK)⟩
theorem opIn_loadv {F : Fence} {n : Nat} {P : Program} {o : Oper} {a : Act} {w w' : World} {K : Act → World → Prop} {Q : Exit → Act → World → Prop} {v : Value} (ty : TypeId) (x : Operand) (ho : o.op = .load ty x) (p : Addr) (hx : a.eval x = .pointer (some p))
    (hrun : (loadVar ty p).run P w = .ok v w') (hK : K (a.put o.dst v) w') : o.wpIn F n P a w K Q :=
  opIn_val (by simp [Oper.about, ho]) (by
    rw [Oper.semAt_plain F _ _ (by rw [ho]; intro c hc; cases hc)]
    simp only [execOp, ho, hx, Instr.loadAt, Instr.sureAddr, Sem.run_bind, Sem.run_pure, Result.andThen_ok, hrun]) hK
def IW (w : World) (H : VL → Bool) (fv : Value) (pre : List VL) (W : World) : Prop :=
  (∃ v vs, Blk W (w.heap.size + 1) 43 #[v] ∧ OwnLL W (w.heap.size + 2) W.heap.size 30 3 v vs ((pre.filter H).map (·.1))) ∧ Blk W w.heap.size 93 #[fv] ∧ Below w.heap.size w W
theorem iw_from (w : World) (H : VL → Bool) (fv : Value) (B : Nat) (hB : w.heap.size ≤ B) : OwnFrom B (IW w H fv) := by
  rintro s W W' row ⟨⟨v, vs, h1, h2⟩, h3, h4⟩ hg hr
  have ne : ∀ (g : Nat) (cs : Array Value) (t : TypeId), W.heap[g]? = some (.cells cs t (0, 0)) → some g ≠ row := fun g cs t hc e => by
    obtain ⟨_, o, ho, hc'⟩ := hr g e.symm
    rw [hc] at ho; injection ho with ho; subst ho; simp [Obj.isCells] at hc'
  have kp : ∀ (g : Nat) (cs : Array Value) (t : TypeId), W.heap[g]? = some (.cells cs t (0, 0)) → W'.heap[g]? = W.heap[g]? := fun g cs t hc => hg.block g (Array.getElem?_eq_some_iff.1 hc).1 (ne g cs t hc)
  exact ⟨⟨v, vs, h1.grown hg (ne _ _ _ h1), (h2.stay hg.size (fun g cs hc => kp g cs _ hc) (fun g cs hc => kp g cs _ hc)).more⟩, h3.grown hg (ne _ _ _ h3), h4.grown hg h4.size (fun k e => Nat.le_trans hB (hr k e).1)⟩
theorem iw_abt (w : World) (H : VL → Bool) (fv : Value) (B : Nat) (hB : w.heap.size ≤ B) : AbT B 60 (IW w H fv) := by
  refine ⟨?_, ?_, ?_⟩
  · rintro s W o ⟨⟨v, vs, h1, h2⟩, h3, h4⟩
    have kp : ∀ (g : Nat) (cs : Array Value) (t : TypeId), W.heap[g]? = some (.cells cs t (0, 0)) → (W.alloc o).heap[g]? = W.heap[g]? := fun g cs t hc => Below.heap_alloc W o g (Array.getElem?_eq_some_iff.1 hc).1
    exact ⟨⟨v, vs, h1.alloc o, (h2.stay (by simp) (fun g cs hc => kp g cs _ hc) (fun g cs hc => kp g cs _ hc)).more⟩, h3.alloc o, h4.alloc h4.size o⟩
  · rintro s W n ⟨⟨v, vs, h1, h2⟩, h3, h4⟩
    exact ⟨⟨v, vs, h1, (h2.stay (w' := W.drewN n) (Nat.le_refl _) (fun g cs hc => rfl) (fun g cs hc => rfl)).more⟩, h3, h4.trans ((Dr.n W n).below _)⟩
  · rintro s W b i u cs fr ⟨⟨v, vs, h1, h2⟩, h3, h4⟩ hb hc
    have ne : ∀ (g : Nat) (cs' : Array Value) (t : TypeId), t ≠ 60 → W.heap[g]? = some (.cells cs' t (0, 0)) → g ≠ b := fun g cs' t ht hg e => by
      subst e; rw [hc] at hg; injection hg with hg; injection hg with _ hg _; exact ht hg.symm
    have kp : ∀ (g : Nat) (cs' : Array Value) (t : TypeId), t ≠ 60 → W.heap[g]? = some (.cells cs' t (0, 0)) → (W.setCell ⟨b, i, none⟩ u).heap[g]? = W.heap[g]? := fun g cs' t ht hg => Below.heap_setCell W ⟨b, i, none⟩ u g (ne g cs' t ht hg)
    exact ⟨⟨v, vs, h1.off (ne _ _ _ (by decide) h1) _, (h2.stay (by simp [World.setCell]) (fun g cs hc => kp g cs _ (by decide) hc) (fun g cs hc => kp g cs _ (by decide) hc)).more⟩, h3.off (ne _ _ _ (by decide) h3) _, h4.setCell (p := ⟨b, i, none⟩) (Nat.le_trans hB hb) u⟩

theorem iw_below {w : World} {H : VL → Bool} {fv : Value} {pre : List VL} {W W' : World} (h : IW w H fv pre W) (hb : Below W.heap.size W W') : IW w H fv pre W' := by
  obtain ⟨⟨v, vs, h1, h2⟩, h3, h4⟩ := h
  exact ⟨⟨v, vs, h1.below hb h1.lt, (h2.below hb).more⟩, h3.below hb h3.lt, h4.trans (hb.mono h4.size)⟩
theorem ko_below {W W' : World} (hb : Below W.heap.size W W') : KeepsOthers W W' := ⟨hb.size, fun j o hj _ => (hb.block j (Array.getElem?_eq_some_iff.1 hj).1).trans hj⟩
theorem T_ints2 : (Try.prog.info? 30).map (fun i => (i.zero, i.size, i.bytes)) = some (some (.slice none 0 0), 1, 24) := by kernel_rfl
theorem opIn_append {F : Fence} {n : Nat} {P : Program} {o : Oper} {a : Act} {w w' : World} {K : Act → World → Prop} {Q : Exit → Act → World → Prop} {v v' : Value} {A : Option Addr} {m c : Nat} (s x : Operand) (t : TypeId)
    (ho : o.op = .call { callee := .builtin .append, args := #[s, x], argTypes := #[t, t] }) (hs : a.eval s = v) (hx : a.eval x = .slice A m c)
    (hrun : (Builtin.append_ #[t, t] o.type #[v, .slice A m c]).run P w = .ok v' w') (hK : K (a.put o.dst v') w') : o.wpIn F n P a w K Q :=
  opIn_val (by simp [Oper.about, ho, resolve, Target.leads, Sem.run_pure]) (by
    rw [Oper.semAt_plain F _ _ (by rw [ho]; intro c hc; cases hc)]
    simp [execOp, ho, resolve, invoke, builtin, hs, hx, hrun, Result.andThen]) hK
theorem opIn_store {F : Fence} {n : Nat} {P : Program} {o : Oper} {a : Act} {w w' : World} {K : Act → World → Prop} {Q : Exit → Act → World → Prop} (ty : TypeId) (x y : Operand)
    (ho : o.op = .store ty x y) (p : Addr) (hx : a.eval x = .pointer (some p)) (hrun : (storeVar ty p (a.eval y)).run P w = .ok () w') (hK : K (a.put o.dst undef) w') : o.wpIn F n P a w K Q :=
  ⟨fun f hf => (by simp [Oper.about, ho] at hf), (by
    rw [Oper.semAt_plain F _ _ (by rw [ho]; intro c hc; cases hc)]
    simp only [execOp, ho, hx, Instr.storeAt, Instr.sureAddr, Sem.run_bind, Sem.run_pure, Result.andThen_ok, hrun]
    exact hK)⟩
theorem allQ_few : (List.range 17).all (fun k => decide ((allQ k k k).length ≤ 1000)) = true := by decide +kernel
theorem allQ_len {k : Nat} (hk : k ≤ 16) : (allQ k k k).length ≤ 1000 := by
  have := List.all_eq_true.1 allQ_few k (by simp; omega)
  simpa using this
theorem round_end {w W W3 W4 : World} {H : VL → Bool} {fv : Value} {pre : List VL} {x : VL} {v v' : Value} {vs : List Value} {u : Option Addr} {lu hiu : Nat}
    (hLL : OwnLL W (w.heap.size + 2) W.heap.size 30 3 v vs ((pre.filter H).map (·.1))) (hb5 : Blk W (w.heap.size + 1) 43 #[v]) (hb3 : Blk W w.heap.size 93 #[fv]) (hB : Below w.heap.size w W) (hH : H x = true)
    (hB3 : Below W.heap.size W W3) (hu : Own W3 lu hiu 3 (.slice u x.1.length x.1.length) (ints x.1)) (hlu : W.heap.size ≤ lu) (ho4 : Own W4 (w.heap.size + 2) W4.heap.size 30 v' (vs ++ [.slice u x.1.length x.1.length]))
    (hg4 : W3.grownBy W4 v.ownBlock) (hat4 : v'.ownBlock = v.ownBlock ∨ v'.ownBlock = some W3.heap.size) :
    KeepsOthers W (W4.setCell ⟨w.heap.size + 1, 0, none⟩ v') ∧ KpT 60 W (W4.setCell ⟨w.heap.size + 1, 0, none⟩ v') ∧ IW w H fv (pre ++ [x]) (W4.setCell ⟨w.heap.size + 1, 0, none⟩ v') := by
  have hl5 := hb5.lt
  have hbase := hLL.outer.base
  have b3 : Blk W3 (w.heap.size + 1) 43 #[v] := hb5.below hB3 hb5.lt
  have b4 : Blk W4 (w.heap.size + 1) 43 #[v] := b3.grown hg4 (fun e => by have := hbase _ e.symm; omega)
  have f3 : Blk W3 w.heap.size 93 #[fv] := hb3.below hB3 hb3.lt
  have f4 : Blk W4 w.heap.size 93 #[fv] := f3.grown hg4 (fun e => by have := hbase _ e.symm; omega)
  have hz : W.heap.size ≤ W4.heap.size := Nat.le_trans hB3.size hg4.size
  have hk : ∀ j, j < W.heap.size → some j ≠ v.ownBlock → j ≠ w.heap.size + 1 → (W4.setCell ⟨w.heap.size + 1, 0, none⟩ v').heap[j]? = W.heap[j]? := fun j hj h1 h2 =>
    (Below.heap_setCell W4 ⟨w.heap.size + 1, 0, none⟩ v' j h2).trans ((hg4.block j (Nat.lt_of_lt_of_le hj hB3.size) h1).trans (hB3.block j hj))
  have hvb : ∀ g, v.ownBlock = some g → ∃ cs, W.heap[g]? = some (.cells cs 30 (0, 0)) := fun g hg => by
    rcases hLL.outer.row.2 with ⟨h1, _⟩ | ⟨g', cap, cur, h1, _, hb, _⟩
    · rw [h1] at hg; simp [Value.ownBlock] at hg
    · rw [h1] at hg
      simp [Value.ownBlock] at hg
      subst hg
      exact ⟨_, hb⟩
  have hs5 : (W4.setCell ⟨w.heap.size + 1, 0, none⟩ v').heap.size = W4.heap.size := by simp [World.setCell]
  refine ⟨⟨by rw [hs5]; exact hz, fun j o hj ho => (hk j (Array.getElem?_eq_some_iff.1 hj).1 ?_ ?_).trans hj⟩, ⟨by rw [hs5]; exact hz, fun b cs fr hb => (hk b (Array.getElem?_eq_some_iff.1 hb).1 ?_ ?_).trans hb⟩, ?_⟩
  · intro e
    obtain ⟨cs, hc⟩ := hvb j e.symm
    rw [hc] at hj; injection hj with hj; subst hj; simp [Obj.isCells] at ho
  · intro e
    subst e
    rw [show W.heap[w.heap.size + 1]? = _ from hb5] at hj; injection hj with hj; subst hj; simp [Obj.isCells] at ho
  · intro e
    obtain ⟨cs', hc⟩ := hvb b e.symm
    rw [hc] at hb; injection hb with hb; injection hb with _ hb _; exact absurd hb (by decide)
  · intro e
    subst e
    rw [show W.heap[w.heap.size + 1]? = _ from hb5] at hb; injection hb with hb; injection hb with _ hb _; exact absurd hb (by decide)
  · have hne : ∀ (g : Nat) (cs : Array Value) (t : TypeId), t ≠ 43 → W4.heap[g]? = some (.cells cs t (0, 0)) → g ≠ w.heap.size + 1 := fun g cs t ht hg e => by
      subst e
      rw [show W4.heap[w.heap.size + 1]? = _ from b4] at hg; injection hg with hg; injection hg with _ hg _; exact ht hg.symm
    have hLL4 := (hLL.below hB3).append hu hlu (by omega) ho4 hg4 hat4
    have hLL5 := hLL4.stay (w' := W4.setCell ⟨w.heap.size + 1, 0, none⟩ v') (by rw [hs5]; exact Nat.le_refl _) (fun g cs hc => Below.heap_setCell W4 ⟨w.heap.size + 1, 0, none⟩ v' g (hne g cs _ (by decide) hc)) (fun g cs hc => Below.heap_setCell W4 ⟨w.heap.size + 1, 0, none⟩ v' g (hne g cs _ (by decide) hc))
    have hf : ((pre ++ [x]).filter H).map (·.1) = (pre.filter H).map (·.1) ++ [x.1] := by rw [List.filter_append]; simp [hH]
    refine ⟨⟨v', vs ++ [.slice u x.1.length x.1.length], b4.set 0 v', ?_⟩, f4.off (by show w.heap.size ≠ w.heap.size + 1; omega) _, ?_⟩
    · rw [hf]; exact hLL5.more
    · exact ((hB.trans (hB3.mono hB.size)).grown hg4 (Nat.le_trans hB.size hB3.size) (fun g e => by have := hbase g e; omega)).setCell (p := ⟨w.heap.size + 1, 0, none⟩) (by show w.heap.size ≤ w.heap.size + 1; omega) _
def AxW (w : World) (k : Nat) (fv : Value) (x : VL) (a' : Act) (W : World) : Prop := ∃ Bx, w.heap.size + 2 ≤ Bx ∧ Blk W Bx 60 (arr (pad x.1)) ∧
  a' = { tmps := #[.int .i64 k, fv, undef, .pointer (some ⟨w.heap.size, 0, none⟩), .slice none 0 0, .pointer (some ⟨w.heap.size + 1, 0, none⟩), .pointer (some ⟨Bx, 0, none⟩), .int .i64 k, .func (.func 72) #[] #[.pointer (some ⟨w.heap.size + 1 + 1, 0, none⟩)], .agg (arr (pad x.1)), undef, undef, undef, undef, undef, undef, undef, undef, undef], defers := [] }

end Go.Proofs.Ytgkghebjaedjmaa
namespace Go.Proofs.Ytgkghebjaedjmaa
open Go.RowKit
set_option linter.unusedVariables false
set_option linter.unusedSimpArgs false
section
variable {P : Program}
theorem splice_size (cs vs : Array Value) (o : Nat) (hs : o + vs.size ≤ cs.size) : ((cs.toList.take o ++ vs.toList ++ cs.toList.drop (o + vs.size)).toArray).size = cs.size := by
  simp
  omega
theorem run_storeVar_at (w : World) (g o : Nat) (t ty : TypeId) (cs vs : Array Value) (hg : Blk w g t cs) (hi : (P.info? ty).map (·.size) = some vs.size) (hs : o + vs.size ≤ cs.size) (h1 : ∀ v ∈ vs.toList, v.oneCell' = true) :
    (storeVar ty ⟨g, o, none⟩ (.agg vs)).run P w = .ok () (w.setRow g (cs.toList.take o ++ vs.toList ++ cs.toList.drop (o + vs.size)).toArray) := by
  cases hq : P.info? ty with
  | none => simp [hq] at hi
  | some i =>
    have hz : i.size = vs.size := by simpa [hq] using hi
    have hst := run_storeCells_at P g o t vs.toList 0 cs w hg (by simp; omega) h1
    simp only [Nat.add_zero, Array.length_toList] at hst
    simp [storeVar, Sem.run_bind, sizeOf, typeInfo, hq, hz, Value.cells, hst]
theorem wpList_store_at {ops : Array Oper} {rest : List Oper} {oo : Oper} {a : Act} {w : World} {Q : Exit → Act → World → Prop} (hgd : oo.guard = none) (ty : TypeId) (x v : Operand) (ho : oo.op = .store ty x v)
    (g o : Nat) (hx : a.eval x = .pointer (some ⟨g, o, none⟩)) (vs : Array Value) (hv : a.eval v = .agg vs) (t : TypeId) (cs : Array Value) (hg : Blk w g t cs)
    (hi : (P.info? ty).map (·.size) = some vs.size) (hs : o + vs.size ≤ cs.size) (h1 : ∀ v ∈ vs.toList, v.oneCell' = true)
    (h : wpList P ops Q rest (a.put oo.dst undef) (w.setRow g (cs.toList.take o ++ vs.toList ++ cs.toList.drop (o + vs.size)).toArray)) : wpList P ops Q (oo :: rest) a w :=
  wpList_plain hgd fun _ hK => by
    unfold Oper.wp execOp
    simp only [ho, hx, hv, Instr.storeAt, Instr.sureAddr, Sem.run_bind, Sem.run_pure, Result.andThen_ok, run_storeVar_at w g o t ty cs vs hg hi hs h1]
    exact hK _ _ h
theorem run_loadVar_at (w : World) (g o : Nat) (t ty : TypeId) (cs vs : Array Value) (d : TypeDesc) (hg : Blk w g t cs)
    (hu : P.underlying ty = some d) (hd : (match d with | .struct _ | .array _ _ => true | _ => false) = true) (hi : (P.info? ty).map (·.size) = some vs.size)
    (hv : ∀ j (v : Value), vs[j]? = some v → cs[o + j]? = some v) : (loadVar ty ⟨g, o, none⟩).run P w = .ok (.agg vs) w := by
  have hl : (loadCells ⟨g, o, none⟩ vs.toList.length).run P w = .ok vs.toList.toArray w :=
    run_loadCells_list (P := P) w ⟨g, o, none⟩ vs.toList (fun j v hj => by
      have hadd : (⟨g, o, none⟩ : Addr).add j = ⟨g, o + j, none⟩ := by unfold Addr.add; split <;> simp_all
      rw [hadd, hg.cell (o + j)]
      exact hv j v (by simpa using hj))
  cases hq : P.info? ty with
  | none => simp [hq] at hi
  | some i =>
    have hz : i.size = vs.size := by simpa [hq] using hi
    have hagg : (isAgg ty).run P w = .ok true w := by
      unfold isAgg
      rw [Sem.run_bind, run_underlying hu w]
      cases d <;> simp_all
    simp only [Array.length_toList, Array.toArray_toList] at hl
    simp [loadVar, Sem.run_bind, hagg, sizeOf, typeInfo, hq, hz, hl]
theorem wpList_load_at {ops : Array Oper} {rest : List Oper} {oo : Oper} {a : Act} {w : World} {Q : Exit → Act → World → Prop} (hgd : oo.guard = none) (ty : TypeId) (x : Operand) (ho : oo.op = .load ty x)
    (g o : Nat) (hx : a.eval x = .pointer (some ⟨g, o, none⟩)) (t : TypeId) (cs vs : Array Value) (d : TypeDesc) (hg : Blk w g t cs)
    (hu : P.underlying ty = some d) (hd : (match d with | .struct _ | .array _ _ => true | _ => false) = true) (hi : (P.info? ty).map (·.size) = some vs.size)
    (hv : ∀ j (v : Value), vs[j]? = some v → cs[o + j]? = some v)
    (h : wpList P ops Q rest (a.put oo.dst (.agg vs)) w) : wpList P ops Q (oo :: rest) a w :=
  wpList_plain hgd fun _ hK => by
    unfold Oper.wp execOp
    simp only [ho, hx, Instr.loadAt, Instr.sureAddr, Sem.run_bind, Sem.run_pure, Result.andThen_ok, run_loadVar_at w g o t ty cs vs d hg hu hd hi hv]
    exact hK _ _ h
theorem run_index_agg (T e : TypeId) (d : TypeDesc) (n m : Nat) (hT : P.underlying T = some (.array n e)) (he : P.underlying e = some d) (hd : (match d with | .struct _ | .array _ _ => true | _ => false) = true) (hc : (P.info? e).map (·.size) = some m)
    (cs : Array Value) (k : Nat) (hk : k < n) (kd : IntKind) (w : World) : (Instr.index T (.agg cs) (.int kd k)).run P w = .ok (.agg (cs.extract (k * m) (k * m + m))) w := by
  cases hq : P.info? e with
  | none => simp [hq] at hc
  | some i =>
    have hz : i.size = m := by simpa [hq] using hc
    have hagg : ∀ w : World, (isAgg e).run P w = .ok true w := by
      intro w
      unfold isAgg
      rw [Sem.run_bind, run_underlying he w]
      cases d <;> simp_all
    simp [Instr.index, asIntOf, Sem.run_bind, run_underlying hT, sizeOf, typeInfo, hq, hz, part, hagg]
    intro hnk
    omega
end
/-- sixteen rows of sixteen -/
def Sq (R : List (List Int)) : Prop := R.length = 16 ∧ ∀ L ∈ R, L.length = 16
theorem flat_len {R : List (List Int)} (h : ∀ L ∈ R, L.length = 16) : R.flatten.length = 16 * R.length := by
  induction R with
  | nil => rfl
  | cons x S ih => rw [List.flatten_cons, List.length_append, ih (fun L hL => h L (List.mem_cons_of_mem _ hL)), h x (List.mem_cons_self ..)]; simp; omega
theorem flat_drop {R : List (List Int)} (h : ∀ L ∈ R, L.length = 16) (i : Nat) : R.flatten.drop (16 * i) = (R.drop i).flatten := by
  induction R generalizing i with
  | nil => simp
  | cons x S ih =>
    have hx := h x (List.mem_cons_self ..)
    cases i with
    | zero => simp
    | succ i =>
      rw [List.flatten_cons, List.drop_succ_cons, ← ih (fun L hL => h L (List.mem_cons_of_mem _ hL)), show 16 * (i + 1) = x.length + 16 * i by omega, List.drop_append]
      rw [List.drop_eq_nil_of_le (by omega)]
      simp
theorem flat_take {R : List (List Int)} (h : ∀ L ∈ R, L.length = 16) (i : Nat) : R.flatten.take (16 * i) = (R.take i).flatten := by
  induction R generalizing i with
  | nil => simp
  | cons x S ih =>
    have hx := h x (List.mem_cons_self ..)
    cases i with
    | zero => simp
    | succ i =>
      rw [List.flatten_cons, List.take_succ_cons, List.flatten_cons, ← ih (fun L hL => h L (List.mem_cons_of_mem _ hL)), show 16 * (i + 1) = x.length + 16 * i by omega, List.take_append]
      rw [List.take_of_length_le (by omega)]
      simp
theorem flat_row {R : List (List Int)} (h : ∀ L ∈ R, L.length = 16) {i : Nat} (hi : i < R.length) : (R.flatten.drop (16 * i)).take 16 = R[i] := by
  rw [flat_drop h, List.drop_eq_getElem_cons hi, List.flatten_cons, List.take_append, List.take_of_length_le (by rw [h _ (List.getElem_mem hi)]; exact Nat.le_refl _), h _ (List.getElem_mem hi)]
  simp
theorem flat_get {R : List (List Int)} (h : ∀ L ∈ R, L.length = 16) {i k : Nat} (hi : i < R.length) (hk : k < 16) : R.flatten[16 * i + k]? = R[i][k]? := by
  have := flat_row h hi
  rw [← this, List.getElem?_take, if_pos hk, List.getElem?_drop]
theorem flat_setRow {R : List (List Int)} (h : ∀ L ∈ R, L.length = 16) {i : Nat} (hi : i < R.length) (L : List Int) : R.flatten.take (16 * i) ++ L ++ R.flatten.drop (16 * i + 16) = (R.set i L).flatten := by
  rw [show 16 * i + 16 = 16 * (i + 1) by omega, flat_take h, flat_drop h, List.set_eq_take_append_cons_drop, if_pos hi, List.flatten_append, List.flatten_cons, List.append_assoc]
theorem flat_set {R : List (List Int)} (h : ∀ L ∈ R, L.length = 16) {i k : Nat} (hi : i < R.length) (hk : k < 16) (v : Int) : R.flatten.set (16 * i + k) v = (R.set i (R[i].set k v)).flatten := by
  have hl := flat_len h
  rw [← flat_setRow h hi]
  have hrow := flat_row h hi
  have hd : R.flatten = R.flatten.take (16 * i) ++ R[i] ++ R.flatten.drop (16 * i + 16) := by
    rw [← hrow, List.append_assoc, ← List.drop_drop, List.take_append_drop, List.take_append_drop]
  have ht : (R.flatten.take (16 * i)).length = 16 * i := by rw [List.length_take]; omega
  have hri : R[i].length = 16 := h _ (List.getElem_mem hi)
  conv => lhs; rw [hd]
  rw [List.append_assoc, List.set_append_right _ _ (by omega), ht, Nat.add_sub_cancel_left, List.set_append_left _ _ (by omega), List.append_assoc]
theorem arr_splice (D L : List Int) (o : Nat) : ((arr D).toList.take o ++ (arr L).toList ++ (arr D).toList.drop (o + (arr L).size)).toArray = arr (D.take o ++ L ++ D.drop (o + L.length)) := by
  simp [arr, ints, List.map_take, List.map_drop]
theorem arr_extract (D : List Int) (o n : Nat) : (arr D).extract o (o + n) = arr ((D.drop o).take n) := by
  apply Array.toList_inj.1
  simp [arr, ints, List.map_take, List.map_drop]
theorem arr_flat_row {R : List (List Int)} (h : ∀ L ∈ R, L.length = 16) {i : Nat} (hi : i < R.length) : (arr R.flatten).extract (i * 16) (i * 16 + 16) = arr R[i] := by
  rw [arr_extract, Nat.mul_comm i 16, flat_row h hi]
theorem arr_flat_store {R : List (List Int)} (h : ∀ L ∈ R, L.length = 16) {i : Nat} (hi : i < R.length) {L : List Int} (hL : L.length = 16) :
    ((arr R.flatten).toList.take (16 * i) ++ (arr L).toList ++ (arr R.flatten).toList.drop (16 * i + (arr L).size)).toArray = arr (R.set i L).flatten := by
  rw [arr_splice, hL, flat_setRow h hi]
theorem sq_set {R : List (List Int)} (h : Sq R) (i : Nat) {L : List Int} (hL : L.length = 16) : Sq (R.set i L) := by
  refine ⟨by rw [List.length_set]; exact h.1, fun M hM => ?_⟩
  rcases List.mem_or_eq_of_mem_set hM with h1 | h1
  · exact h.2 M h1
  · rw [h1]; exact hL
theorem sq_len {R : List (List Int)} (h : Sq R) : R.flatten.length = 256 := by rw [flat_len h.2, h.1]
end Go.Proofs.Ytgkghebjaedjmaa
namespace Go.Proofs.Ytgkghebjaedjmaa
open Go.RowKit NP
set_option maxRecDepth 8000
set_option linter.unusedVariables false
set_option linter.unusedSimpArgs false
theorem ins_no {P Q : List Int} {k : Nat} (h : P.getD k 0 < Q.getD k 0) : ins P Q = false := by
  cases hh : ins P Q with
  | false => rfl
  | true => have := (ins_iff.1 hh).2.2 k; omega
theorem sumTo_bd {L : List Int} (hv : valid L = true) (k : Nat) : 0 ≤ sumTo L k ∧ sumTo L k ≤ 16 := by
  rw [sumTo_take]
  have := valid_bd (valid_take hv k)
  omega
theorem dom_no {P Q : List Int} {k : Nat} (hk : k ≤ 16) (h : sumTo P k < sumTo Q k) : dom P Q = false := by
  cases hh : dom P Q with
  | false => rfl
  | true => have := (dom_iff.1 hh).2.2.2 k hk; omega
theorem dom_yes {P Q : List Int} (hp : valid P = true) (hq : valid Q = true) {n : Nat} (h1 : P.length ≤ n) (h2 : Q.length ≤ n) (h : ∀ j, j ≤ n → sumTo Q j ≤ sumTo P j) : dom P Q = (sumL P == sumL Q) := by
  rw [Bool.eq_iff_iff, dom_iff, beq_iff_eq]
  constructor
  · rintro ⟨_, _, hs, _⟩; exact hs
  · intro hs
    refine ⟨hp, hq, hs, fun k _ => ?_⟩
    rcases Nat.lt_or_ge k n with hk | hk
    · exact h k (by omega)
    · rw [sumTo_all P k (by omega), sumTo_all Q k (by omega), hs]; exact Int.le_refl _
theorem mt_at {P Q : List Int} {n : Nat} (h1 : P.length ≤ n) (h2 : Q.length ≤ n) (hn : n ≤ 16) : tr (mi P Q) n = mt P Q := by
  unfold NP.mt
  refine (tr_more hn fun i hi => ?_).symm
  unfold mi mf
  simp only [sumTo]
  rw [getD_ge (by omega), getD_ge (by omega)]
  omega
def oneS' (P Q : List Int) : Bool := valid P && valid Q && (sumL P == sumL Q)
def mtF (P Q : List Int) : List Int := if oneS' P Q then mt P Q else []
def jnF (P Q : List Int) : List Int := if oneS' P Q then jn P Q else []
theorem oneS_out {P Q : List Int} (h : oneS' P Q = true) : valid P = true ∧ valid Q = true ∧ sumL P = sumL Q := by
  unfold oneS' at h
  simp only [Bool.and_eq_true, beq_iff_eq] at h
  exact ⟨h.1.1, h.1.2, h.2⟩
theorem mtF_yes {P Q : List Int} (h : oneS' P Q = true) : mtF P Q = mt P Q := by simp [mtF, h]
theorem mtF_no {P Q : List Int} (h : oneS' P Q = false) : mtF P Q = [] := by simp [mtF, h]
theorem jnF_yes {P Q : List Int} (h : oneS' P Q = true) : jnF P Q = jn P Q := by simp [jnF, h]
theorem jnF_no {P Q : List Int} (h : oneS' P Q = false) : jnF P Q = [] := by simp [jnF, h]
theorem mtF_len (P Q : List Int) : (mtF P Q).length ≤ 16 := by
  cases h : oneS' P Q with
  | true => rw [mtF_yes h]; obtain ⟨h1, h2, _⟩ := oneS_out h; exact (valid_bd (valid_mt h1 h2)).2.2.2
  | false => rw [mtF_no h]; simp
theorem jnF_len (P Q : List Int) : (jnF P Q).length ≤ 16 := by
  cases h : oneS' P Q with
  | true => rw [jnF_yes h]; obtain ⟨h1, h2, _⟩ := oneS_out h; exact (valid_bd (valid_jn h1 h2)).2.2.2
  | false => rw [jnF_no h]; simp



end Go.Proofs.Ytgkghebjaedjmaa
namespace Go.Proofs.Ytgkghebjaedjmaa
open NP
set_option linter.unusedVariables false
theorem ins_conj_le {P Q : List Int} (h : ins P Q = true) : ins (conj P) (conj Q) = true := by
  obtain ⟨hp, hq, hk⟩ := ins_iff.1 h
  refine ins_iff.2 ⟨valid_conj hp, valid_conj hq, fun j => ?_⟩
  rw [conj_getD hp, conj_getD hq]
  have hb := cnt_bd ((j : Int) + 1) Q
  have hb2 := cnt_bd ((j : Int) + 1) P
  obtain ⟨m, hm⟩ := Int.eq_ofNat_of_zero_le hb.1
  rw [hm]
  by_cases h0 : m = 0
  · subst h0; simpa using hb2.1
  · have hl : m - 1 < Q.length := by have := hb.2; omega
    have h1 := (cnt_ge_iff hq hl ((j : Int) + 1)).1 (by rw [hm]; omega)
    have h2 := hk (m - 1)
    rw [getD_lt hl] at h2
    have hlp : m - 1 < P.length := by
      rcases Nat.lt_or_ge (m - 1) P.length with h3 | h3
      · exact h3
      · rw [getD_ge h3] at h2; omega
    rw [getD_lt hlp] at h2
    have h3 := (cnt_ge_iff hp hlp ((j : Int) + 1)).2 (by omega)
    omega
theorem ins_conj {P Q : List Int} (hp : valid P = true) (hq : valid Q = true) : ins (conj P) (conj Q) = ins P Q := by
  rw [Bool.eq_iff_iff]
  refine ⟨fun h => ?_, ins_conj_le⟩
  have := ins_conj_le h
  rwa [conj_conj hp, conj_conj hq] at this
theorem ins_sum {P Q : List Int} (h : ins P Q = true) : sumL Q ≤ sumL P := by
  obtain ⟨hp, hq, hk⟩ := ins_iff.1 h
  have key : ∀ n, sumTo Q n ≤ sumTo P n := by
    intro n
    induction n with
    | zero => exact Int.le_refl _
    | succ n ih => have := hk n; rw [sumTo, sumTo]; omega
  have := key 16
  rwa [sumTo_all Q 16 (valid_bd hq).2.2.2, sumTo_all P 16 (valid_bd hp).2.2.2] at this
theorem dom_self {P : List Int} (hp : valid P = true) : dom P P = true := dom_iff.2 ⟨hp, hp, rfl, fun _ _ => Int.le_refl _⟩
theorem dom_anti {P Q : List Int} (h : dom P Q = true) : dom Q P = decide (P = Q) := by
  obtain ⟨hp, hq, hs, hk⟩ := dom_iff.1 h
  rw [Bool.eq_iff_iff, decide_eq_true_eq]
  constructor
  · intro h2
    have hk2 := (dom_iff.1 h2).2.2.2
    exact eq_of_sumTo hp hq fun k hk' => by have := hk k hk'; have := hk2 k hk'; omega
  · rintro rfl; exact dom_self hp
theorem dom_ne {P Q : List Int} (hp : valid P = true) (h : dom P Q = false) : decide (P = Q) = false := by
  rw [decide_eq_false_iff_not]
  rintro rfl
  rw [dom_self hp] at h
  cases h
theorem oneS_conj {P Q : List Int} (h : oneS' P Q = true) : oneS' (conj P) (conj Q) = true := by
  obtain ⟨hp, hq, hs⟩ := oneS_out h
  unfold oneS'
  rw [valid_conj hp, valid_conj hq, sumL_conj hp, sumL_conj hq, hs]
  simp
theorem dom_mt {P Q : List Int} (hp : valid P = true) (hq : valid Q = true) (hs : sumL P = sumL Q) : dom P (NP.mt P Q) = true := by
  refine dom_iff.2 ⟨hp, valid_mt hp hq, ?_, fun k hk => ?_⟩
  · rw [sum_mt hp hq]; omega
  · rw [sumTo_mt hp hq hk]; unfold mf; omega
theorem jn_facts {P Q : List Int} (h : oneS' P Q = true) : dom (jn P Q) P = true ∧ dom (jn P Q) Q = true ∧ oneS' P (jn P Q) = true ∧ mtF P (jn P Q) = P ∧ mtF (conj P) (conj Q) = conj (jn P Q) := by
  obtain ⟨hp, hq, hs⟩ := oneS_out h
  have hj := valid_jn hp hq
  have hcs : sumL (conj P) = sumL (conj Q) := by rw [sumL_conj hp, sumL_conj hq, hs]
  have hcj : conj (jn P Q) = NP.mt (conj P) (conj Q) := conj_conj (valid_mt (valid_conj hp) (valid_conj hq))
  have d1 : dom (jn P Q) P = true := by rw [← dom_conj hj hp, hcj]; exact dom_mt (valid_conj hp) (valid_conj hq) hcs
  have d2 : dom (jn P Q) Q = true := by rw [← dom_conj hj hq, hcj, mt_comm]; exact dom_mt (valid_conj hq) (valid_conj hp) hcs.symm
  have ho : oneS' P (jn P Q) = true := by
    unfold oneS'
    rw [hp, hj, (dom_iff.1 d1).2.2.1]
    simp
  refine ⟨d1, d2, ho, ?_, ?_⟩
  · rw [mtF_yes ho, mt_comm]
    exact (mt_right hj hp).2 (dom_iff.1 d1).2.2.2
  · rw [mtF_yes (oneS_conj h), hcj]
theorem oneS_comm (P Q : List Int) : oneS' P Q = oneS' Q P := by
  unfold oneS'
  rw [Bool.eq_iff_iff]
  simp only [Bool.and_eq_true, beq_iff_eq]
  constructor
  · rintro ⟨⟨a, b⟩, c⟩; exact ⟨⟨b, a⟩, c.symm⟩
  · rintro ⟨⟨a, b⟩, c⟩; exact ⟨⟨b, a⟩, c.symm⟩
end Go.Proofs.Ytgkghebjaedjmaa
