/-
  Walks of the program: all diagrams, one after the other. Walks of the program: the iterator over all diagrams with a sum. Walks of the program: all parts with a sum, those of which something holds. Walks of the program: the parts with a sum of which something holds, where parts are listed. Walks of the program: all parts with a sum. Walks of the model: all parts with a sum. Walks of the model: the parts of a kind, as lists of the call's own. Plain mathematics: how many parts are of the kinds gap and self, by tables up to 12; no Go text. Walks: inRange, countTo of the model; withMany, countsUpTo of the program.
-/
import Derived.Test.YtifhnjnpbpgjfaaZk1
import Derived.Test.YtifhnjnpbpgjfaaZk2
import Derived.Test.YtifhnjnpbpgjfaaZk3
import Derived.Test.YtifhnjnpbpgjfaaZk4
import Derived.Test.YtifhnjnpbpgjfaaZk5
import Derived.Test.YtifhnjnpbpgjfaaZk6
import Derived.Test.YtifhnjnpbpgjfaaProg
import Derived.Deep.QuietTactic
import Derived.BigQuiet
import Derived.StillTailTactics
import Derived.IntWalk
import Derived.Lib.Hide
import Derived.Shelf.Abstract
namespace Go.Proofs.Ytifhnjnpbpgjfaa
open Go.RowKit Go.Shelf NP
set_option maxRecDepth 8000
set_option linter.unusedVariables false
set_option linter.unusedSimpArgs false
attribute [local go_sem] Oper.semAt_some
abbrev VL := { x : List Int // valid x = true }
def topQ (L : List Int) (m : Nat) : Nat := if L.length = 0 then m else (L.getD (L.length - 1) 0).toNat
theorem upQ_leJ (f n top : Nat) : ∀ {j k : Nat}, j ≤ k → (upQ f n top j).length ≤ (upQ f n top k).length := by
  intro j k h
  unfold upQ
  have e : (List.range top).reverse.take k = (List.range top).reverse.take j ++ ((List.range top).reverse.take k).drop j := by
    conv => lhs; rw [← List.take_append_drop j ((List.range top).reverse.take k)]
    rw [List.take_take, Nat.min_eq_left h]
  rw [e, List.flatMap_append, List.length_append]
  omega
theorem upQ_pre (f n top : Nat) : ∀ {j k : Nat}, j ≤ k → upQ f n top j <+: upQ f n top k := by
  intro j k h
  unfold upQ
  have e : (List.range top).reverse.take k = (List.range top).reverse.take j ++ ((List.range top).reverse.take k).drop j := by
    conv => lhs; rw [← List.take_append_drop j ((List.range top).reverse.take k)]
    rw [List.take_take, Nat.min_eq_left h]
  rw [e, List.flatMap_append]
  exact List.prefix_append _ _
theorem KpT.setNew {T : TypeId} {W wr : World} (h : KpT T W wr) {b i : Nat} {v : Value} (hb : W.heap.size ≤ b) : KpT T W (wr.setCell ⟨b, i, none⟩ v) :=
  ⟨by have := h.size; simpa [World.setCell] using this, fun k cs fr hk => by
    have hlt := (Array.getElem?_eq_some_iff.1 hk).1
    exact (Below.heap_setCell wr ⟨b, i, none⟩ v k (by show k ≠ b; omega)).trans (h.same k cs fr hk)⟩
theorem valid_snoc {L : List Int} (hv : valid L = true) {p m : Nat} (h1 : 1 ≤ p) (h2 : sumL L + (p : Int) ≤ 16) (h3 : 0 < L.length → (p : Int) ≤ L.getD (L.length - 1) 0) : valid (L ++ [(p : Int)]) = true := by
  apply valid_of_preS
  · intro j hj _
    have hl := (valid_bd hv)
    rcases Nat.lt_or_ge j L.length with h | h
    · have hp := preS_of_valid hv j h h
      rw [List.getElem_append_left h]
      refine ⟨hp.1, hp.2.1, fun h0 => ?_⟩
      rw [List.getElem_append_left (by omega)]
      exact hp.2.2 h0
    · obtain rfl : j = L.length := by simp at hj; omega
      rw [List.getElem_append_right (Nat.le_refl _)]
      simp only [Nat.sub_self, List.getElem_cons_zero]
      refine ⟨by omega, by have := hl.1; omega, fun h0 => ?_⟩
      rw [List.getElem_append_left (by omega), ← getD_lt (by omega)]
      exact h3 h0
  · rw [sumL_append]; simpa [sumL] using h2
theorem topQ_snoc (L : List Int) (p m : Nat) : topQ (L ++ [(p : Int)]) m = p := by
  unfold topQ
  rw [if_neg (by simp), List.getD_eq_getElem?_getD]
  simp
theorem pad_snoc {L : List Int} (h : L.length < 16) (x : Int) : (pad L).set L.length x = pad (L ++ [x]) := by
  have e := pad_set (L := L ++ [x]) (k := L.length) (by simp) h
  rw [List.take_left, List.getElem_append_right (Nat.le_refl _)] at e
  simp only [Nat.sub_self, List.getElem_cons_zero] at e
  rw [e, List.take_of_length_le (by simp)]

set_option maxRecDepth 100000 in
set_option maxHeartbeats 4000000 in
theorem dfrom_zero (F : Fence) (hd : F.depth = none) (hf : F.fn 87) (hro : F.round = none) (l B N : Nat) (J Jx : List VL → World → Prop) (hJ : AbT B 62 J) (hJx : AbT B 62 Jx)
    (hY : ∀ m pre (x : VL) W, J pre W → pre.length < N → YieldAt F m Try.prog l #[.agg (arr (pad x.1))] W fun e W' =>
      (e = .returned (.bool true) ∧ J (pre ++ [x]) W' ∧ KpT 62 W W') ∨ (e = .returned (.bool false) ∧ Jx (pre ++ [x]) W'))
    (f : Nat) (L : List Int) (n : Nat) (pre : List VL) (W : World) (hv : valid L = true) (hj : J pre W) (hN : pre.length + 1 ≤ N) (hB : B ≤ W.heap.size) :
      CallsIn F n Try.prog 87 #[.agg (arr (pad L)), .int .i64 L.length, .int .i64 0, .func (.yield l) #[] #[]] W fun e W' =>
        (e = .returned (.bool true) ∧ (∃ xs : List VL, xs.map (·.1) = (allQ f 0 (topQ L 0)).map (L ++ ·) ∧ J (pre ++ xs) W') ∧ KpT 62 W W') ∨
        (e = .returned (.bool false) ∧ ∃ xs : List VL, xs.map (·.1) <+: (allQ f 0 (topQ L 0)).map (L ++ ·) ∧ Jx (pre ++ xs) W') := by
  have hdd : ∀ k : Nat, (F.depth.isSome = true → 1 ≤ k) := fun k h => by rw [hd] at h; cases h
  have hlen : L.length ≤ 16 := (valid_bd hv).2.2.2
  have hi16 : (Try.prog.info? 62).map (·.size) = some (arr (pad L)).size := by rw [arr_size, pad_len hlen]; exact T_info35
  have hb := Blk.new W 62 (arr (pad L))
  have hj1 := hJ.alloc _ _ (.cells (arr (pad L)) 62) hj
  rw [allQ_zero]
  obtain ⟨fn, tmps, assign, body, hy, hR⟩ := hY (n - 1) pre ⟨L, hv⟩ _ hj1 (by omega)
  have hkp : KpT 62 W (W.alloc (.cells (arr (pad L)) 62)) := KpT.below ((Below.refl _ _).alloc (Nat.le_refl _) _)
  dsimp only at hy
  refine callsIn_of_wp Try.func87 rfl hf ?_ hro
  simp only [Try.ntmps87, List.size_toArray, List.length_cons, List.length_nil, Nat.reduceAdd, Nat.reduceSub, Array.replicate_succ, Array.replicate_zero, List.push_toArray, List.append_toArray, List.nil_append, List.cons_append]
  gi_wp2_with (first
    | (refine wpListIn_load_row rfl 62 (.tmp 4) rfl W.heap.size rfl 62 (arr (pad L)) (0, 0) _ hb Try.underlying62 rfl hi16 ?_)
    | ((try refine ⟨hdd _, ?_⟩); refine hR.mono ?_; clear hR; rintro e W1 (⟨rfl, hJ1, hk1⟩ | ⟨rfl, hx1⟩)))
  · go_ret
    exact .inl ⟨rfl, ⟨[⟨L, hv⟩], by simp, hJ1⟩, hkp.trans hk1⟩
  · go_ret
    exact .inr ⟨rfl, [⟨L, hv⟩], by simp, hx1⟩

set_option maxRecDepth 100000 in
set_option maxHeartbeats 4000000 in
theorem dfrom_in (F : Fence) (hd : F.depth = none) (hf : F.fn 87) (hro : F.round = none) (l B N : Nat) (J Jx : List VL → World → Prop) (hJ : AbT B 62 J) (hJx : AbT B 62 Jx)
    (hY : ∀ m pre (x : VL) W, J pre W → pre.length < N → YieldAt F m Try.prog l #[.agg (arr (pad x.1))] W fun e W' =>
      (e = .returned (.bool true) ∧ J (pre ++ [x]) W' ∧ KpT 62 W W') ∨ (e = .returned (.bool false) ∧ Jx (pre ++ [x]) W')) :
    ∀ (f : Nat) (L : List Int) (m n : Nat) (pre : List VL) (W : World), m ≤ f → valid L = true → sumL L + (m : Int) ≤ 16 → J pre W → pre.length + (allQ f m (topQ L m)).length ≤ N → B ≤ W.heap.size →
      CallsIn F n Try.prog 87 #[.agg (arr (pad L)), .int .i64 L.length, .int .i64 m, .func (.yield l) #[] #[]] W fun e W' =>
        (e = .returned (.bool true) ∧ (∃ xs : List VL, xs.map (·.1) = (allQ f m (topQ L m)).map (L ++ ·) ∧ J (pre ++ xs) W') ∧ KpT 62 W W') ∨
        (e = .returned (.bool false) ∧ ∃ xs : List VL, xs.map (·.1) <+: (allQ f m (topQ L m)).map (L ++ ·) ∧ Jx (pre ++ xs) W') := by
  have hdd : ∀ k : Nat, (F.depth.isSome = true → 1 ≤ k) := fun k h => by rw [hd] at h; cases h
  intro f
  induction f with
  | zero =>
    intro L m n pre W hm hv hs hj hN hB
    obtain rfl : m = 0 := by omega
    rw [allQ_zero] at hN
    exact dfrom_zero F hd hf hro l B N J Jx hJ hJx hY 0 L n pre W hv hj (by simpa using hN) hB
  | succ f ih =>
    intro L m n pre W hm hv hs hj hN hB
    by_cases h0 : m = 0
    · subst h0
      rw [allQ_zero] at hN
      exact dfrom_zero F hd hf hro l B N J Jx hJ hJx hY (f + 1) L n pre W hv hj (by simpa using hN) hB
    have hbd := valid_bd hv
    have hlen : L.length ≤ 16 := hbd.2.2.2
    have hlen2 : L.length < 16 := by omega
    have hb := Blk.new W 62 (arr (pad L))
    have hj1 := hJ.alloc _ _ (.cells (arr (pad L)) 62) hj
    have hkp : KpT 62 W (W.alloc (.cells (arr (pad L)) 62)) := KpT.below ((Below.refl _ _).alloc (Nat.le_refl _) _)
    rw [allQ_up f m _ h0] at hN ⊢
    obtain ⟨T0, hT0⟩ : ∃ T0, T0 = min m (topQ L m) := ⟨_, rfl⟩
    rw [← hT0] at hN ⊢
    have htop : topQ L m ≤ 16 ∧ (0 < L.length → ((topQ L m : Nat) : Int) = L.getD (L.length - 1) 0) ∧ (L.length = 0 → topQ L m = m) := by
      unfold topQ
      by_cases hl0 : L.length = 0
      · rw [if_pos hl0]; exact ⟨by omega, fun h => by omega, fun _ => rfl⟩
      · rw [if_neg hl0]
        have := getD_nn hv (L.length - 1)
        exact ⟨by omega, fun _ => by omega, fun h => absurd h hl0⟩
    have hm0 : ((m : Int) == 0) = false := by simp; omega
    have HV := Lib.hid hv
    have HN := Lib.hid hN
    have HT := Lib.hid hT0
    have HTP := Lib.hid htop
    have HIH := Lib.hid ih
    clear hv hN ih hT0 htop
    -- the greatest part that may come
    have key : ∀ W1, W1 = W.alloc (.cells (arr (pad L)) 62) → True := fun _ _ => trivial
    clear key
    refine callsIn_of_wp Try.func87 rfl hf ?_ hro
    simp only [Try.ntmps87, List.size_toArray, List.length_cons, List.length_nil, Nat.reduceAdd, Nat.reduceSub, Array.replicate_succ, Array.replicate_zero, List.push_toArray, List.append_toArray, List.nil_append, List.cons_append]
    by_cases hl0 : L.length = 0
    · have e0 : T0 = m := by rw [HT.out, HTP.out.2.2 hl0]; omega
      have HE0 : Hid ((m : Int) = (T0 : Int)) := Lib.hid (by omega)
      have d1 : decide ((0 : Int) < (L.length : Int)) = false := decide_eq_false (by omega)
      have d1' : decide (0 < L.length) = false := decide_eq_false (by omega)
      clear e0
      have HL0 := Lib.hid hl0
      clear hl0
      gi_wp2
      gi_loopw [10] (fun v wr => ∃ (j : Nat) (xs : List VL) (D : List Int), j ≤ T0 ∧ v = .int .i64 ((T0 : Int) - (j : Int)) ∧ xs.map (·.1) = (upQ f m T0 j).map (L ++ ·) ∧ J (pre ++ xs) wr ∧ KpT 62 W wr ∧ Blk wr W.heap.size 62 (arr D) ∧ D.length = 16 ∧ (∀ p, D.set L.length p = (pad L).set L.length p)) (fun v _ => (intOf v).toNat)
      case atStart => exact ⟨0, [], pad L, Nat.zero_le _, by simp [HE0.out], by simp [upQ_zero], by simpa using hj1, hkp, hb, pad_len hlen, fun _ => rfl⟩
      case round =>
        obtain ⟨j, xs, D, hj, rfl, hxs, hJs, hks, hblk, hDl, hDs⟩ := hrel
        clear hb hj1 hkp
        by_cases hlt : j < T0
        · obtain ⟨p, hp⟩ : ∃ p : Nat, p = T0 - j := ⟨_, rfl⟩
          have hpv : (T0 : Int) - (j : Int) = (p : Int) := by omega
          have hp1 : 1 ≤ p := by omega
          have hT := HT.out
          have hpm : p ≤ m := by omega
          have hpt : 0 < L.length → (p : Int) ≤ L.getD (L.length - 1) 0 := fun h => by have := HTP.out.2.1 h; omega
          have hvp := valid_snoc HV.out (p := p) (m := m) hp1 (by omega) hpt
          have hset : D.set L.length (p : Int) = pad (L ++ [(p : Int)]) := by rw [hDs, pad_snoc hlen2]
          have hblk2 := hblk.set L.length (.int .i64 (p : Int))
          rw [arr_set, hset] at hblk2
          have hJ2 := hJ.cell _ _ _ L.length (.int .i64 (p : Int)) _ _ hJs hB hblk
          have hks2 := hks.setNew (i := L.length) (v := .int .i64 (p : Int)) (Nat.le_refl W.heap.size)
          have hcz : wr.cell? ⟨W.heap.size, L.length, none⟩ = some ((arr D)[L.length]?.getD undef) := by
            rw [hblk.cell L.length]
            have : L.length < (arr D).size := by rw [arr_size, hDl]; omega
            simp [this]
          have hfz : wr.frozen? ⟨W.heap.size, L.length, none⟩ = false := hblk.free _
          have hi16 : (Try.prog.info? 62).map (·.size) = some (arr (pad (L ++ [(p : Int)]))).size := by rw [arr_size, pad_len (valid_bd hvp).2.2.2]; exact T_info35
          have hup := upQ_succ f m T0 j hlt
          have hpi : T0 - 1 - j = p - 1 := by omega
          have hpc : pieceQ f m (p - 1) = (allQ f (m - p) p).map fun R => ((p : Nat) : Int) :: R := by unfold pieceQ; rw [show p - 1 + 1 = p by omega]
          have hle := upQ_leJ f m T0 (j := j + 1) (k := T0) hlt
          rw [hup, List.length_append, hpi, hpc, List.length_map] at hle
          have hxl : xs.length = (upQ f m T0 j).length := by have := congrArg List.length hxs; simpa using this
          have hih := HIH.out (L ++ [(p : Int)]) (m - p) (n - 1) (pre ++ xs) _ (by omega) hvp (by rw [sumL_append]; simp only [sumL]; omega) hJ2 (by rw [topQ_snoc, List.length_append]; have := HN.out; omega) (by have := hks2.size; omega)
          rw [topQ_snoc, show (((L ++ [(p : Int)]).length : Nat) : Int) = (L.length : Int) + 1 by simp, show ((m - p : Nat) : Int) = (m : Int) - (p : Int) by omega] at hih
          have hw1 : IntKind.i64.wrap ((L.length : Int) + 1) = (L.length : Int) + 1 := IntWalk.i64_in _ (by omega)
          have hw2 : IntKind.i64.wrap ((m : Int) - (p : Int)) = (m : Int) - (p : Int) := IntWalk.i64_in _ (by omega)
          have hw3 : IntKind.i64.wrap ((p : Int) - 1) = (p : Int) - 1 := IntWalk.i64_in _ (by omega)
          have hge : decide ((1 : Int) ≤ (p : Int)) = true := decide_eq_true (by omega)
          have hl16 : (L.length : Int) < 16 := by omega
          have HXS := Lib.hid hxs
          have HUP := Lib.hid hup
          have HSET := Lib.hid hset
          have HPC := Lib.hid hpc
          have HPI := Lib.hid hpi
          clear hxs hup hle hxl hset hpc hpi hJs hDs hT hp
          rw [hpv]
          gi_wp2_with (first
            | (refine wpListIn_load_row rfl 62 (.tmp 4) rfl W.heap.size rfl 62 (arr (pad (L ++ [(p : Int)]))) (0, 0) _ hblk2 Try.underlying62 rfl hi16 ?_)
            | ((try refine ⟨hdd _, ?_⟩); gi_at_call 87; refine hih.mono ?_; clear hih; rintro e W2 (⟨rfl, ⟨ys, hys, hJ3⟩, hk3⟩ | ⟨rfl, ys, hys, hx3⟩)))
          · go_roundw
            case rel =>
              refine ⟨j + 1, xs ++ ys, pad (L ++ [(p : Int)]), by omega, by congr 1; omega, ?_, by rw [← List.append_assoc]; exact hJ3, hks2.trans hk3, hk3.same _ _ _ hblk2, pad_len (valid_bd hvp).2.2.2, fun q => by rw [← pad_snoc hlen2, List.set_set]⟩
              rw [List.map_append, HXS.out, hys, HUP.out, List.map_append, HPI.out, HPC.out, List.map_map]
              congr 1
              apply List.map_congr_left
              intro R _
              simp
            case measure => simp [intOf]; omega
          · go_ret
            refine .inr ⟨rfl, xs ++ ys, ?_, by rw [← List.append_assoc]; exact hx3⟩
            have h1 : (upQ f m T0 (j + 1)).map (L ++ ·) <+: (upQ f m T0 T0).map (L ++ ·) := (upQ_pre f m T0 hlt).map _
            refine List.IsPrefix.trans ?_ h1
            rw [List.map_append, HXS.out, HUP.out, List.map_append, HPI.out, HPC.out, List.map_map]
            have e : (allQ f (m - p) p).map ((fun x => L ++ x) ∘ fun R => ((p : Nat) : Int) :: R) = (allQ f (m - p) p).map (fun R => (L ++ [(p : Int)]) ++ R) := by
              apply List.map_congr_left
              intro R _
              simp
            rw [e]
            exact (List.prefix_append_right_inj _).2 hys
        · obtain rfl : j = T0 := by omega
          have hpv : (j : Int) - (j : Int) = 0 := by omega
          rw [hpv]
          gi_wp2
          go_ret
          exact .inl ⟨rfl, ⟨xs, hxs, hJs⟩, hks⟩
    · have hlp : 0 < L.length := by omega
      have d1 : decide ((0 : Int) < (L.length : Int)) = true := decide_eq_true (by omega)
      have d1' : decide (0 < L.length) = true := decide_eq_true hlp
      have hl1 : L.length - 1 < (pad L).length := by rw [pad_len hlen]; omega
      have hcl : (W.alloc (.cells (arr (pad L)) 62)).cell? ⟨W.heap.size, L.length - 1, none⟩ = some (.int .i64 ((topQ L m : Nat) : Int)) := by
        rw [hb.cell, arr_get _ _ hl1, ← getD_lt hl1, pad_getD hlen, HTP.out.2.1 hlp]
      have hwl : IntKind.i64.wrap ((L.length : Int) - 1) = (L.length : Int) - 1 := IntWalk.i64_in _ (by omega)
      have hnn1 : (0 : Int) ≤ (L.length : Int) - 1 := by omega
      have hnn2 : (L.length : Int) - 1 < 16 := by omega
      have hnn3 : ((L.length : Int) - 1).toNat = L.length - 1 := by omega
      have HL0 := Lib.hid hl0
      clear hl0
      by_cases hcs : ((topQ L m : Nat) : Int) < (m : Int)
      · have hif : (((topQ L m : Nat) : Int) < (m : Int)) = True := by simpa using hcs
        have hif2 : (topQ L m < m) = True := by simp; omega
        have HE0 : Hid (((topQ L m : Nat) : Int) = (T0 : Int)) := Lib.hid (by rw [HT.out]; omega)
        clear hcs
        gi_wp2
        gi_loopw [10] (fun v wr => ∃ (j : Nat) (xs : List VL) (D : List Int), j ≤ T0 ∧ v = .int .i64 ((T0 : Int) - (j : Int)) ∧ xs.map (·.1) = (upQ f m T0 j).map (L ++ ·) ∧ J (pre ++ xs) wr ∧ KpT 62 W wr ∧ Blk wr W.heap.size 62 (arr D) ∧ D.length = 16 ∧ (∀ p, D.set L.length p = (pad L).set L.length p)) (fun v _ => (intOf v).toNat)
        case atStart => exact ⟨0, [], pad L, Nat.zero_le _, by simp [HE0.out], by simp [upQ_zero], by simpa using hj1, hkp, hb, pad_len hlen, fun _ => rfl⟩
        case round =>
          obtain ⟨j, xs, D, hj, rfl, hxs, hJs, hks, hblk, hDl, hDs⟩ := hrel
          clear hb hj1 hkp
          by_cases hlt : j < T0
          · obtain ⟨p, hp⟩ : ∃ p : Nat, p = T0 - j := ⟨_, rfl⟩
            have hpv : (T0 : Int) - (j : Int) = (p : Int) := by omega
            have hp1 : 1 ≤ p := by omega
            have hT := HT.out
            have hpm : p ≤ m := by omega
            have hpt : 0 < L.length → (p : Int) ≤ L.getD (L.length - 1) 0 := fun h => by have := HTP.out.2.1 h; omega
            have hvp := valid_snoc HV.out (p := p) (m := m) hp1 (by omega) hpt
            have hset : D.set L.length (p : Int) = pad (L ++ [(p : Int)]) := by rw [hDs, pad_snoc hlen2]
            have hblk2 := hblk.set L.length (.int .i64 (p : Int))
            rw [arr_set, hset] at hblk2
            have hJ2 := hJ.cell _ _ _ L.length (.int .i64 (p : Int)) _ _ hJs hB hblk
            have hks2 := hks.setNew (i := L.length) (v := .int .i64 (p : Int)) (Nat.le_refl W.heap.size)
            have hcz : wr.cell? ⟨W.heap.size, L.length, none⟩ = some ((arr D)[L.length]?.getD undef) := by
              rw [hblk.cell L.length]
              have : L.length < (arr D).size := by rw [arr_size, hDl]; omega
              simp [this]
            have hfz : wr.frozen? ⟨W.heap.size, L.length, none⟩ = false := hblk.free _
            have hi16 : (Try.prog.info? 62).map (·.size) = some (arr (pad (L ++ [(p : Int)]))).size := by rw [arr_size, pad_len (valid_bd hvp).2.2.2]; exact T_info35
            have hup := upQ_succ f m T0 j hlt
            have hpi : T0 - 1 - j = p - 1 := by omega
            have hpc : pieceQ f m (p - 1) = (allQ f (m - p) p).map fun R => ((p : Nat) : Int) :: R := by unfold pieceQ; rw [show p - 1 + 1 = p by omega]
            have hle := upQ_leJ f m T0 (j := j + 1) (k := T0) hlt
            rw [hup, List.length_append, hpi, hpc, List.length_map] at hle
            have hxl : xs.length = (upQ f m T0 j).length := by have := congrArg List.length hxs; simpa using this
            have hih := HIH.out (L ++ [(p : Int)]) (m - p) (n - 1) (pre ++ xs) _ (by omega) hvp (by rw [sumL_append]; simp only [sumL]; omega) hJ2 (by rw [topQ_snoc, List.length_append]; have := HN.out; omega) (by have := hks2.size; omega)
            rw [topQ_snoc, show (((L ++ [(p : Int)]).length : Nat) : Int) = (L.length : Int) + 1 by simp, show ((m - p : Nat) : Int) = (m : Int) - (p : Int) by omega] at hih
            have hw1 : IntKind.i64.wrap ((L.length : Int) + 1) = (L.length : Int) + 1 := IntWalk.i64_in _ (by omega)
            have hw2 : IntKind.i64.wrap ((m : Int) - (p : Int)) = (m : Int) - (p : Int) := IntWalk.i64_in _ (by omega)
            have hw3 : IntKind.i64.wrap ((p : Int) - 1) = (p : Int) - 1 := IntWalk.i64_in _ (by omega)
            have hge : decide ((1 : Int) ≤ (p : Int)) = true := decide_eq_true (by omega)
            have hl16 : (L.length : Int) < 16 := by omega
            have HXS := Lib.hid hxs
            have HUP := Lib.hid hup
            have HSET := Lib.hid hset
            have HPC := Lib.hid hpc
            have HPI := Lib.hid hpi
            clear hxs hup hle hxl hset hpc hpi hJs hDs hT hp
            rw [hpv]
            gi_wp2_with (first
              | (refine wpListIn_load_row rfl 62 (.tmp 4) rfl W.heap.size rfl 62 (arr (pad (L ++ [(p : Int)]))) (0, 0) _ hblk2 Try.underlying62 rfl hi16 ?_)
              | ((try refine ⟨hdd _, ?_⟩); gi_at_call 87; refine hih.mono ?_; clear hih; rintro e W2 (⟨rfl, ⟨ys, hys, hJ3⟩, hk3⟩ | ⟨rfl, ys, hys, hx3⟩)))
            · go_roundw
              case rel =>
                refine ⟨j + 1, xs ++ ys, pad (L ++ [(p : Int)]), by omega, by congr 1; omega, ?_, by rw [← List.append_assoc]; exact hJ3, hks2.trans hk3, hk3.same _ _ _ hblk2, pad_len (valid_bd hvp).2.2.2, fun q => by rw [← pad_snoc hlen2, List.set_set]⟩
                rw [List.map_append, HXS.out, hys, HUP.out, List.map_append, HPI.out, HPC.out, List.map_map]
                congr 1
                apply List.map_congr_left
                intro R _
                simp
              case measure => simp [intOf]; omega
            · go_ret
              refine .inr ⟨rfl, xs ++ ys, ?_, by rw [← List.append_assoc]; exact hx3⟩
              have h1 : (upQ f m T0 (j + 1)).map (L ++ ·) <+: (upQ f m T0 T0).map (L ++ ·) := (upQ_pre f m T0 hlt).map _
              refine List.IsPrefix.trans ?_ h1
              rw [List.map_append, HXS.out, HUP.out, List.map_append, HPI.out, HPC.out, List.map_map]
              have e : (allQ f (m - p) p).map ((fun x => L ++ x) ∘ fun R => ((p : Nat) : Int) :: R) = (allQ f (m - p) p).map (fun R => (L ++ [(p : Int)]) ++ R) := by
                apply List.map_congr_left
                intro R _
                simp
              rw [e]
              exact (List.prefix_append_right_inj _).2 hys
          · obtain rfl : j = T0 := by omega
            have hpv : (j : Int) - (j : Int) = 0 := by omega
            rw [hpv]
            gi_wp2
            go_ret
            exact .inl ⟨rfl, ⟨xs, hxs, hJs⟩, hks⟩
      · have hif : (((topQ L m : Nat) : Int) < (m : Int)) = False := by simpa using hcs
        have hif2 : (topQ L m < m) = False := by simp; omega
        have HE0 : Hid ((m : Int) = (T0 : Int)) := Lib.hid (by rw [HT.out]; omega)
        clear hcs
        gi_wp2
        gi_loopw [10] (fun v wr => ∃ (j : Nat) (xs : List VL) (D : List Int), j ≤ T0 ∧ v = .int .i64 ((T0 : Int) - (j : Int)) ∧ xs.map (·.1) = (upQ f m T0 j).map (L ++ ·) ∧ J (pre ++ xs) wr ∧ KpT 62 W wr ∧ Blk wr W.heap.size 62 (arr D) ∧ D.length = 16 ∧ (∀ p, D.set L.length p = (pad L).set L.length p)) (fun v _ => (intOf v).toNat)
        case atStart => exact ⟨0, [], pad L, Nat.zero_le _, by simp [HE0.out], by simp [upQ_zero], by simpa using hj1, hkp, hb, pad_len hlen, fun _ => rfl⟩
        case round =>
          obtain ⟨j, xs, D, hj, rfl, hxs, hJs, hks, hblk, hDl, hDs⟩ := hrel
          clear hb hj1 hkp
          by_cases hlt : j < T0
          · obtain ⟨p, hp⟩ : ∃ p : Nat, p = T0 - j := ⟨_, rfl⟩
            have hpv : (T0 : Int) - (j : Int) = (p : Int) := by omega
            have hp1 : 1 ≤ p := by omega
            have hT := HT.out
            have hpm : p ≤ m := by omega
            have hpt : 0 < L.length → (p : Int) ≤ L.getD (L.length - 1) 0 := fun h => by have := HTP.out.2.1 h; omega
            have hvp := valid_snoc HV.out (p := p) (m := m) hp1 (by omega) hpt
            have hset : D.set L.length (p : Int) = pad (L ++ [(p : Int)]) := by rw [hDs, pad_snoc hlen2]
            have hblk2 := hblk.set L.length (.int .i64 (p : Int))
            rw [arr_set, hset] at hblk2
            have hJ2 := hJ.cell _ _ _ L.length (.int .i64 (p : Int)) _ _ hJs hB hblk
            have hks2 := hks.setNew (i := L.length) (v := .int .i64 (p : Int)) (Nat.le_refl W.heap.size)
            have hcz : wr.cell? ⟨W.heap.size, L.length, none⟩ = some ((arr D)[L.length]?.getD undef) := by
              rw [hblk.cell L.length]
              have : L.length < (arr D).size := by rw [arr_size, hDl]; omega
              simp [this]
            have hfz : wr.frozen? ⟨W.heap.size, L.length, none⟩ = false := hblk.free _
            have hi16 : (Try.prog.info? 62).map (·.size) = some (arr (pad (L ++ [(p : Int)]))).size := by rw [arr_size, pad_len (valid_bd hvp).2.2.2]; exact T_info35
            have hup := upQ_succ f m T0 j hlt
            have hpi : T0 - 1 - j = p - 1 := by omega
            have hpc : pieceQ f m (p - 1) = (allQ f (m - p) p).map fun R => ((p : Nat) : Int) :: R := by unfold pieceQ; rw [show p - 1 + 1 = p by omega]
            have hle := upQ_leJ f m T0 (j := j + 1) (k := T0) hlt
            rw [hup, List.length_append, hpi, hpc, List.length_map] at hle
            have hxl : xs.length = (upQ f m T0 j).length := by have := congrArg List.length hxs; simpa using this
            have hih := HIH.out (L ++ [(p : Int)]) (m - p) (n - 1) (pre ++ xs) _ (by omega) hvp (by rw [sumL_append]; simp only [sumL]; omega) hJ2 (by rw [topQ_snoc, List.length_append]; have := HN.out; omega) (by have := hks2.size; omega)
            rw [topQ_snoc, show (((L ++ [(p : Int)]).length : Nat) : Int) = (L.length : Int) + 1 by simp, show ((m - p : Nat) : Int) = (m : Int) - (p : Int) by omega] at hih
            have hw1 : IntKind.i64.wrap ((L.length : Int) + 1) = (L.length : Int) + 1 := IntWalk.i64_in _ (by omega)
            have hw2 : IntKind.i64.wrap ((m : Int) - (p : Int)) = (m : Int) - (p : Int) := IntWalk.i64_in _ (by omega)
            have hw3 : IntKind.i64.wrap ((p : Int) - 1) = (p : Int) - 1 := IntWalk.i64_in _ (by omega)
            have hge : decide ((1 : Int) ≤ (p : Int)) = true := decide_eq_true (by omega)
            have hl16 : (L.length : Int) < 16 := by omega
            have HXS := Lib.hid hxs
            have HUP := Lib.hid hup
            have HSET := Lib.hid hset
            have HPC := Lib.hid hpc
            have HPI := Lib.hid hpi
            clear hxs hup hle hxl hset hpc hpi hJs hDs hT hp
            rw [hpv]
            gi_wp2_with (first
              | (refine wpListIn_load_row rfl 62 (.tmp 4) rfl W.heap.size rfl 62 (arr (pad (L ++ [(p : Int)]))) (0, 0) _ hblk2 Try.underlying62 rfl hi16 ?_)
              | ((try refine ⟨hdd _, ?_⟩); gi_at_call 87; refine hih.mono ?_; clear hih; rintro e W2 (⟨rfl, ⟨ys, hys, hJ3⟩, hk3⟩ | ⟨rfl, ys, hys, hx3⟩)))
            · go_roundw
              case rel =>
                refine ⟨j + 1, xs ++ ys, pad (L ++ [(p : Int)]), by omega, by congr 1; omega, ?_, by rw [← List.append_assoc]; exact hJ3, hks2.trans hk3, hk3.same _ _ _ hblk2, pad_len (valid_bd hvp).2.2.2, fun q => by rw [← pad_snoc hlen2, List.set_set]⟩
                rw [List.map_append, HXS.out, hys, HUP.out, List.map_append, HPI.out, HPC.out, List.map_map]
                congr 1
                apply List.map_congr_left
                intro R _
                simp
              case measure => simp [intOf]; omega
            · go_ret
              refine .inr ⟨rfl, xs ++ ys, ?_, by rw [← List.append_assoc]; exact hx3⟩
              have h1 : (upQ f m T0 (j + 1)).map (L ++ ·) <+: (upQ f m T0 T0).map (L ++ ·) := (upQ_pre f m T0 hlt).map _
              refine List.IsPrefix.trans ?_ h1
              rw [List.map_append, HXS.out, HUP.out, List.map_append, HPI.out, HPC.out, List.map_map]
              have e : (allQ f (m - p) p).map ((fun x => L ++ x) ∘ fun R => ((p : Nat) : Int) :: R) = (allQ f (m - p) p).map (fun R => (L ++ [(p : Int)]) ++ R) := by
                apply List.map_congr_left
                intro R _
                simp
              rw [e]
              exact (List.prefix_append_right_inj _).2 hys
          · obtain rfl : j = T0 := by omega
            have hpv : (j : Int) - (j : Int) = 0 := by omega
            rw [hpv]
            gi_wp2
            go_ret
            exact .inl ⟨rfl, ⟨xs, hxs, hJs⟩, hks⟩
end Go.Proofs.Ytifhnjnpbpgjfaa
namespace Go.Proofs.Ytifhnjnpbpgjfaa
open Go.RowKit Go.Shelf NP
set_option maxRecDepth 8000
set_option linter.unusedVariables false
set_option linter.unusedSimpArgs false
attribute [local go_sem] Oper.semAt_some
theorem topQ_nil (n : Nat) : topQ [] n = n := rfl

set_option maxRecDepth 100000 in
set_option maxHeartbeats 2000000 in
theorem dwith_seq (F : Fence) (hd : F.depth = none) (hf : F.fn 87) (hf1 : F.fn 86) (hro : F.round = none) (n k Bn : Nat) (hk : k ≤ 16) (w : World) (hBn : Bn < w.heap.size) (hc : w.cell? ⟨Bn, 0, none⟩ = some (.int .i64 k)) :
    SeqT F n Try.prog 62 86 #[.pointer (some ⟨Bn, 0, none⟩)] (fun x : VL => #[.agg (arr (pad x.1))]) (fun xs => xs.map (·.1) = allQ k k k) (fun xs => xs.map (·.1) <+: allQ k k k) (allQ k k k).length w := by
  intro l J Jx W hW hJ hJx hY h0
  have hdd : ∀ k : Nat, (F.depth.isSome = true → 1 ≤ k) := fun k h => by rw [hd] at h; cases h
  have hcW : W.cell? ⟨Bn, 0, none⟩ = some (.int .i64 k) := (hW.cell (p := ⟨Bn, 0, none⟩) hBn).trans hc
  have hp := dfrom_in F hd hf hro l W.heap.size (allQ k k k).length J Jx hJ hJx (fun m pre x W1 hj hl => yieldAt_any hd m (hY pre x W1 hj hl)) k [] k (n - 1) [] W (Nat.le_refl _) rfl (by simp [sumL]; omega) h0 (by rw [topQ_nil]; simp) (Nat.le_refl _)
  rw [topQ_nil] at hp
  have hz : arr (pad []) = #[.int .i64 0, .int .i64 0, .int .i64 0, .int .i64 0, .int .i64 0, .int .i64 0, .int .i64 0, .int .i64 0, .int .i64 0, .int .i64 0, .int .i64 0, .int .i64 0, .int .i64 0, .int .i64 0, .int .i64 0, .int .i64 0] := rfl
  rw [hz] at hp
  simp only [List.length_nil] at hp
  refine callsIn_of_wp Try.func86 rfl hf1 ?_ hro
  simp only [Try.ntmps86, List.size_toArray, List.length_cons, List.length_nil, Nat.reduceAdd, Nat.reduceSub, Array.replicate_succ, Array.replicate_zero, List.push_toArray, List.append_toArray, List.nil_append, List.cons_append]
  gi_wp2_with ((try refine ⟨hdd _, ?_⟩); gi_at_call 87; refine hp.mono ?_; clear hp; rintro e W1 (⟨rfl, ⟨xs, hxs, hJ1⟩, _⟩ | ⟨rfl, xs, hxs, hx⟩))
  · go_end0
    exact ⟨⟨_, rfl⟩, .inl ⟨xs, by simpa using hxs, by simpa using hJ1⟩⟩
  · go_end0
    exact ⟨⟨_, rfl⟩, .inr ⟨xs, by simpa using hxs, by simpa using hx⟩⟩

theorem dwith_in (F : Fence) (n : Nat) (hf : F.fn 82) (hro : F.round = none) (k : Int) (w : World) :
    CallsIn F n Try.prog 82 #[.int .i64 k] w fun e w' => e = .returned (.func (.func 86) #[] #[.pointer (some ⟨w.heap.size, 0, none⟩)]) ∧ w' = w.alloc (.cells #[.int .i64 k] 3) := by
  refine callsIn_of_wp Try.func82 rfl hf ?_ hro
  simp only [Try.ntmps82, List.size_toArray, List.length_cons, List.length_nil, Nat.reduceAdd, Nat.reduceSub, Array.replicate_succ, Array.replicate_zero, List.push_toArray, List.append_toArray, List.nil_append, List.cons_append]
  gi_wp2
  go_ret
  exact ⟨rfl, rfl⟩
end Go.Proofs.Ytifhnjnpbpgjfaa
namespace Go.Proofs.Ytifhnjnpbpgjfaa
open Go.RowKit Go.Shelf NP
set_option maxRecDepth 8000
set_option linter.unusedVariables false
set_option linter.unusedSimpArgs false
attribute [local go_sem] Oper.semAt_some
section
variable {w w' : World} {lo hi : Nat} {eo e : TypeId} {v : Value} {vs : List Value}
theorem Own.stay (h : Own w lo hi e v vs) (hs : w.heap.size ≤ w'.heap.size) (hk : ∀ (g : Nat) (cs : Array Value), w.heap[g]? = some (.cells cs e (0, 0)) → w'.heap[g]? = w.heap[g]?) : Own w' lo hi e v vs :=
  h.keep hs fun g hg => by
    rcases h.row.2 with ⟨h1, _⟩ | ⟨g', cap, cur, h1, _, hb, _⟩
    · rw [h1] at hg; simp [Value.ownBlock] at hg
    · rw [h1] at hg
      simp [Value.ownBlock] at hg
      subst hg
      exact hk _ _ hb
theorem OwnLL.stay {LL : List (List Int)} (h : OwnLL w lo hi eo e v vs LL) (hs : w.heap.size ≤ w'.heap.size) (hk : ∀ (g : Nat) (cs : Array Value), w.heap[g]? = some (.cells cs eo (0, 0)) → w'.heap[g]? = w.heap[g]?) (hk2 : ∀ (g : Nat) (cs : Array Value), w.heap[g]? = some (.cells cs e (0, 0)) → w'.heap[g]? = w.heap[g]?) : OwnLL w' lo hi eo e v vs LL :=
  ⟨h.outer.stay hs hk, h.len, fun k u L hu hL => (h.inner k u L hu hL).stay hs hk2, h.apartO, h.apart⟩
end
theorem opIn_val {F : Fence} {n : Nat} {P : Program} {o : Oper} {a : Act} {w w' : World} {K : Act → World → Prop} {Q : Exit → Act → World → Prop} {v : Value} (hab : o.about P w a.eval = none)
    (h : (o.semAt F.round a.eval).run P w = .ok (.value v) w') (hK : K (a.put o.dst v) w') : o.wpIn F n P a w K Q :=
  ⟨fun f hf => (by rw [hab] at hf; cases hf), (by rw [h]; exact hK)⟩
theorem opIn_loadv {F : Fence} {n : Nat} {P : Program} {o : Oper} {a : Act} {w w' : World} {K : Act → World → Prop} {Q : Exit → Act → World → Prop} {v : Value} (ty : TypeId) (x : Operand) (ho : o.op = .load ty x) (p : Addr) (hx : a.eval x = .pointer (some p))
    (hrun : (loadVar ty p).run P w = .ok v w') (hK : K (a.put o.dst v) w') : o.wpIn F n P a w K Q :=
  opIn_val (by simp [Oper.about, ho]) (by
    rw [Oper.semAt_plain F _ _ (by rw [ho]; intro c hc; cases hc)]
    simp only [execOp, ho, hx, Instr.loadAt, Instr.sureAddr, Sem.run_bind, Sem.run_pure, Result.andThen_ok, hrun]) hK
def IW (w : World) (H : VL → Bool) (fv : Value) (pre : List VL) (W : World) : Prop :=
  (∃ v vs, Blk W (w.heap.size + 1) 32 #[v] ∧ OwnLL W (w.heap.size + 2) W.heap.size 25 3 v vs ((pre.filter H).map (·.1))) ∧ Blk W w.heap.size 48 #[fv] ∧ Below w.heap.size w W
theorem iw_from (w : World) (H : VL → Bool) (fv : Value) (B : Nat) (hB : w.heap.size ≤ B) : OwnFrom B (IW w H fv) := by
  rintro s W W' row ⟨⟨v, vs, h1, h2⟩, h3, h4⟩ hg hr
  have ne : ∀ (g : Nat) (cs : Array Value) (t : TypeId), W.heap[g]? = some (.cells cs t (0, 0)) → some g ≠ row := fun g cs t hc e => by
    obtain ⟨_, o, ho, hc'⟩ := hr g e.symm
    rw [hc] at ho; injection ho with ho; subst ho; simp [Obj.isCells] at hc'
  have kp : ∀ (g : Nat) (cs : Array Value) (t : TypeId), W.heap[g]? = some (.cells cs t (0, 0)) → W'.heap[g]? = W.heap[g]? := fun g cs t hc => hg.block g (Array.getElem?_eq_some_iff.1 hc).1 (ne g cs t hc)
  exact ⟨⟨v, vs, h1.grown hg (ne _ _ _ h1), (h2.stay hg.size (fun g cs hc => kp g cs _ hc) (fun g cs hc => kp g cs _ hc)).more⟩, h3.grown hg (ne _ _ _ h3), h4.grown hg h4.size (fun k e => Nat.le_trans hB (hr k e).1)⟩
theorem iw_abt (w : World) (H : VL → Bool) (fv : Value) (B : Nat) (hB : w.heap.size ≤ B) : AbT B 62 (IW w H fv) := by
  refine ⟨?_, ?_, ?_⟩
  · rintro s W o ⟨⟨v, vs, h1, h2⟩, h3, h4⟩
    have kp : ∀ (g : Nat) (cs : Array Value) (t : TypeId), W.heap[g]? = some (.cells cs t (0, 0)) → (W.alloc o).heap[g]? = W.heap[g]? := fun g cs t hc => Below.heap_alloc W o g (Array.getElem?_eq_some_iff.1 hc).1
    exact ⟨⟨v, vs, h1.alloc o, (h2.stay (by simp) (fun g cs hc => kp g cs _ hc) (fun g cs hc => kp g cs _ hc)).more⟩, h3.alloc o, h4.alloc h4.size o⟩
  · rintro s W n ⟨⟨v, vs, h1, h2⟩, h3, h4⟩
    exact ⟨⟨v, vs, h1, (h2.stay (w' := W.drewN n) (Nat.le_refl _) (fun g cs hc => rfl) (fun g cs hc => rfl)).more⟩, h3, h4.trans ((Dr.n W n).below _)⟩
  · rintro s W b i u cs fr ⟨⟨v, vs, h1, h2⟩, h3, h4⟩ hb hc
    have ne : ∀ (g : Nat) (cs' : Array Value) (t : TypeId), t ≠ 62 → W.heap[g]? = some (.cells cs' t (0, 0)) → g ≠ b := fun g cs' t ht hg e => by
      subst e; rw [hc] at hg; injection hg with hg; injection hg with _ hg _; exact ht hg.symm
    have kp : ∀ (g : Nat) (cs' : Array Value) (t : TypeId), t ≠ 62 → W.heap[g]? = some (.cells cs' t (0, 0)) → (W.setCell ⟨b, i, none⟩ u).heap[g]? = W.heap[g]? := fun g cs' t ht hg => Below.heap_setCell W ⟨b, i, none⟩ u g (ne g cs' t ht hg)
    exact ⟨⟨v, vs, h1.off (ne _ _ _ (by decide) h1) _, (h2.stay (by simp [World.setCell]) (fun g cs hc => kp g cs _ (by decide) hc) (fun g cs hc => kp g cs _ (by decide) hc)).more⟩, h3.off (ne _ _ _ (by decide) h3) _, h4.setCell (p := ⟨b, i, none⟩) (Nat.le_trans hB hb) u⟩

theorem iw_below {w : World} {H : VL → Bool} {fv : Value} {pre : List VL} {W W' : World} (h : IW w H fv pre W) (hb : Below W.heap.size W W') : IW w H fv pre W' := by
  obtain ⟨⟨v, vs, h1, h2⟩, h3, h4⟩ := h
  exact ⟨⟨v, vs, h1.below hb h1.lt, (h2.below hb).more⟩, h3.below hb h3.lt, h4.trans (hb.mono h4.size)⟩
theorem ko_below {W W' : World} (hb : Below W.heap.size W W') : KeepsOthers W W' := ⟨hb.size, fun j o hj _ => (hb.block j (Array.getElem?_eq_some_iff.1 hj).1).trans hj⟩
theorem T_ints2 : (Try.prog.info? 25).map (fun i => (i.zero, i.size, i.bytes)) = some (some (.slice none 0 0), 1, 24) := by kernel_rfl
theorem opIn_append {F : Fence} {n : Nat} {P : Program} {o : Oper} {a : Act} {w w' : World} {K : Act → World → Prop} {Q : Exit → Act → World → Prop} {v v' : Value} {A : Option Addr} {m c : Nat} (s x : Operand) (t : TypeId)
    (ho : o.op = .call { callee := .builtin .append, args := #[s, x], argTypes := #[t, t] }) (hs : a.eval s = v) (hx : a.eval x = .slice A m c)
    (hrun : (Builtin.append_ #[t, t] o.type #[v, .slice A m c]).run P w = .ok v' w') (hK : K (a.put o.dst v') w') : o.wpIn F n P a w K Q :=
  opIn_val (by simp [Oper.about, ho, resolve, Target.leads, Sem.run_pure]) (by
    rw [Oper.semAt_plain F _ _ (by rw [ho]; intro c hc; cases hc)]
    simp [execOp, ho, resolve, invoke, builtin, hs, hx, hrun, Result.andThen]) hK
theorem opIn_store {F : Fence} {n : Nat} {P : Program} {o : Oper} {a : Act} {w w' : World} {K : Act → World → Prop} {Q : Exit → Act → World → Prop} (ty : TypeId) (x y : Operand)
    (ho : o.op = .store ty x y) (p : Addr) (hx : a.eval x = .pointer (some p)) (hrun : (storeVar ty p (a.eval y)).run P w = .ok () w') (hK : K (a.put o.dst undef) w') : o.wpIn F n P a w K Q :=
  ⟨fun f hf => (by simp [Oper.about, ho] at hf), (by
    rw [Oper.semAt_plain F _ _ (by rw [ho]; intro c hc; cases hc)]
    simp only [execOp, ho, hx, Instr.storeAt, Instr.sureAddr, Sem.run_bind, Sem.run_pure, Result.andThen_ok, hrun]
    exact hK)⟩
theorem allQ_few : (List.range 17).all (fun k => decide ((allQ k k k).length ≤ 1000)) = true := by decide +kernel
theorem allQ_len {k : Nat} (hk : k ≤ 16) : (allQ k k k).length ≤ 1000 := by
  have := List.all_eq_true.1 allQ_few k (by simp; omega)
  simpa using this
theorem round_end {w W W3 W4 : World} {H : VL → Bool} {fv : Value} {pre : List VL} {x : VL} {v v' : Value} {vs : List Value} {u : Option Addr} {lu hiu : Nat}
    (hLL : OwnLL W (w.heap.size + 2) W.heap.size 25 3 v vs ((pre.filter H).map (·.1))) (hb5 : Blk W (w.heap.size + 1) 32 #[v]) (hb3 : Blk W w.heap.size 48 #[fv]) (hB : Below w.heap.size w W) (hH : H x = true)
    (hB3 : Below W.heap.size W W3) (hu : Own W3 lu hiu 3 (.slice u x.1.length x.1.length) (ints x.1)) (hlu : W.heap.size ≤ lu) (ho4 : Own W4 (w.heap.size + 2) W4.heap.size 25 v' (vs ++ [.slice u x.1.length x.1.length]))
    (hg4 : W3.grownBy W4 v.ownBlock) (hat4 : v'.ownBlock = v.ownBlock ∨ v'.ownBlock = some W3.heap.size) :
    KeepsOthers W (W4.setCell ⟨w.heap.size + 1, 0, none⟩ v') ∧ KpT 62 W (W4.setCell ⟨w.heap.size + 1, 0, none⟩ v') ∧ IW w H fv (pre ++ [x]) (W4.setCell ⟨w.heap.size + 1, 0, none⟩ v') := by
  have hl5 := hb5.lt
  have hbase := hLL.outer.base
  have b3 : Blk W3 (w.heap.size + 1) 32 #[v] := hb5.below hB3 hb5.lt
  have b4 : Blk W4 (w.heap.size + 1) 32 #[v] := b3.grown hg4 (fun e => by have := hbase _ e.symm; omega)
  have f3 : Blk W3 w.heap.size 48 #[fv] := hb3.below hB3 hb3.lt
  have f4 : Blk W4 w.heap.size 48 #[fv] := f3.grown hg4 (fun e => by have := hbase _ e.symm; omega)
  have hz : W.heap.size ≤ W4.heap.size := Nat.le_trans hB3.size hg4.size
  have hk : ∀ j, j < W.heap.size → some j ≠ v.ownBlock → j ≠ w.heap.size + 1 → (W4.setCell ⟨w.heap.size + 1, 0, none⟩ v').heap[j]? = W.heap[j]? := fun j hj h1 h2 =>
    (Below.heap_setCell W4 ⟨w.heap.size + 1, 0, none⟩ v' j h2).trans ((hg4.block j (Nat.lt_of_lt_of_le hj hB3.size) h1).trans (hB3.block j hj))
  have hvb : ∀ g, v.ownBlock = some g → ∃ cs, W.heap[g]? = some (.cells cs 25 (0, 0)) := fun g hg => by
    rcases hLL.outer.row.2 with ⟨h1, _⟩ | ⟨g', cap, cur, h1, _, hb, _⟩
    · rw [h1] at hg; simp [Value.ownBlock] at hg
    · rw [h1] at hg
      simp [Value.ownBlock] at hg
      subst hg
      exact ⟨_, hb⟩
  have hs5 : (W4.setCell ⟨w.heap.size + 1, 0, none⟩ v').heap.size = W4.heap.size := by simp [World.setCell]
  refine ⟨⟨by rw [hs5]; exact hz, fun j o hj ho => (hk j (Array.getElem?_eq_some_iff.1 hj).1 ?_ ?_).trans hj⟩, ⟨by rw [hs5]; exact hz, fun b cs fr hb => (hk b (Array.getElem?_eq_some_iff.1 hb).1 ?_ ?_).trans hb⟩, ?_⟩
  · intro e
    obtain ⟨cs, hc⟩ := hvb j e.symm
    rw [hc] at hj; injection hj with hj; subst hj; simp [Obj.isCells] at ho
  · intro e
    subst e
    rw [show W.heap[w.heap.size + 1]? = _ from hb5] at hj; injection hj with hj; subst hj; simp [Obj.isCells] at ho
  · intro e
    obtain ⟨cs', hc⟩ := hvb b e.symm
    rw [hc] at hb; injection hb with hb; injection hb with _ hb _; exact absurd hb (by decide)
  · intro e
    subst e
    rw [show W.heap[w.heap.size + 1]? = _ from hb5] at hb; injection hb with hb; injection hb with _ hb _; exact absurd hb (by decide)
  · have hne : ∀ (g : Nat) (cs : Array Value) (t : TypeId), t ≠ 32 → W4.heap[g]? = some (.cells cs t (0, 0)) → g ≠ w.heap.size + 1 := fun g cs t ht hg e => by
      subst e
      rw [show W4.heap[w.heap.size + 1]? = _ from b4] at hg; injection hg with hg; injection hg with _ hg _; exact ht hg.symm
    have hLL4 := (hLL.below hB3).append hu hlu (by omega) ho4 hg4 hat4
    have hLL5 := hLL4.stay (w' := W4.setCell ⟨w.heap.size + 1, 0, none⟩ v') (by rw [hs5]; exact Nat.le_refl _) (fun g cs hc => Below.heap_setCell W4 ⟨w.heap.size + 1, 0, none⟩ v' g (hne g cs _ (by decide) hc)) (fun g cs hc => Below.heap_setCell W4 ⟨w.heap.size + 1, 0, none⟩ v' g (hne g cs _ (by decide) hc))
    have hf : ((pre ++ [x]).filter H).map (·.1) = (pre.filter H).map (·.1) ++ [x.1] := by rw [List.filter_append]; simp [hH]
    refine ⟨⟨v', vs ++ [.slice u x.1.length x.1.length], b4.set 0 v', ?_⟩, f4.off (by show w.heap.size ≠ w.heap.size + 1; omega) _, ?_⟩
    · rw [hf]; exact hLL5.more
    · exact ((hB.trans (hB3.mono hB.size)).grown hg4 (Nat.le_trans hB.size hB3.size) (fun g e => by have := hbase g e; omega)).setCell (p := ⟨w.heap.size + 1, 0, none⟩) (by show w.heap.size ≤ w.heap.size + 1; omega) _
def AxW (w : World) (k : Nat) (fv : Value) (x : VL) (a' : Act) (W : World) : Prop := ∃ Bx, w.heap.size + 2 ≤ Bx ∧ Blk W Bx 62 (arr (pad x.1)) ∧
  a' = { tmps := #[.int .i64 k, fv, undef, .pointer (some ⟨w.heap.size, 0, none⟩), .slice none 0 0, .pointer (some ⟨w.heap.size + 1, 0, none⟩), .pointer (some ⟨Bx, 0, none⟩), .int .i64 k, .func (.func 86) #[] #[.pointer (some ⟨w.heap.size + 1 + 1, 0, none⟩)], .agg (arr (pad x.1)), undef, undef, undef, undef, undef, undef, undef, undef, undef], defers := [] }

set_option maxRecDepth 100000 in
set_option maxHeartbeats 4000000 in
theorem partsWhere_any (k : Nat) (hk : k ≤ 16) (fv : Value) (H0 : List Int → Bool) (w : World) (hfv : IsK w fv H0) (H : VL → Bool) (hH0 : ∀ x : VL, H x = H0 x.1) :
    Calls Try.prog 62 #[.int .i64 k, fv] w fun e w' => ∃ (xs : List VL) (a' : Option Addr) (c' : Nat) (vs : List Value), xs.map (·.1) = allQ k k k ∧ e = .returned (.slice a' ((xs.filter H).map (·.1)).length c') ∧ OwnLL w' w.heap.size w'.heap.size 25 3 (.slice a' ((xs.filter H).map (·.1)).length c') vs ((xs.filter H).map (·.1)) ∧ Below w.heap.size w w' := by
  refine (callsIn_wide (n := 6)).1 ?_
  obtain ⟨ff, fp, fc, rfl, he, hh⟩ := hfv
  refine callsIn_of_wp_marks Try.func62 rfl trivial ?_ rfl
  simp only [Try.ntmps62, List.size_toArray, List.length_cons, List.length_nil, Nat.reduceAdd, Nat.reduceSub, Array.replicate_succ, Array.replicate_zero, List.push_toArray, List.append_toArray, List.nil_append, List.cons_append]
  gi_wp2_with ((refine ⟨trivial, ?_⟩; gi_at_call 82; refine (dwith_in Fence.wide _ trivial rfl _ _).mono ?_; rintro e w' ⟨rfl, rfl⟩))
  obtain ⟨W0, hW0⟩ : ∃ W0, (((w.alloc (.cells #[.func (.func ff) fp fc] 48)).alloc (.cells #[.slice none 0 0] 32)).alloc (.cells #[.int .i64 k] 3)) = W0 := ⟨_, rfl⟩
  have hs0 : W0.heap.size = w.heap.size + 3 := by rw [← hW0]; simp
  have hb3 : Blk W0 w.heap.size 48 #[.func (.func ff) fp fc] := by rw [← hW0]; exact ((Blk.new w _ _).alloc _).alloc _
  have hb5 : Blk W0 (w.heap.size + 1) 32 #[.slice none 0 0] := by
    rw [← hW0]
    have e := (Blk.new (w.alloc (.cells #[.func (.func ff) fp fc] 48)) 32 #[.slice none 0 0]).alloc (.cells #[.int .i64 k] 3)
    rw [World.size_alloc] at e
    exact e
  have hbn : W0.cell? ⟨w.heap.size + 1 + 1, 0, none⟩ = some (.int .i64 k) := by
    rw [← hW0]
    have e := Blk.new ((w.alloc (.cells #[.func (.func ff) fp fc] 48)).alloc (.cells #[.slice none 0 0] 32)) 3 #[.int .i64 k]
    rw [World.size_alloc, World.size_alloc] at e
    rw [e.cell 0]
    rfl
  have hB0 : Below w.heap.size w W0 := by rw [← hW0]; exact (((Below.refl _ _).alloc (Nat.le_refl _) _).alloc (by simp) _).alloc (by simp; omega) _
  rw [hW0]
  have hI0 : IW w H (.func (.func ff) fp fc) [] W0 := ⟨⟨_, [], hb5, by rw [show w.heap.size + 2 = w.heap.size + 2 from rfl]; exact (OwnLL.nil W0 (w.heap.size + 2) _ _)⟩, hb3, hB0⟩
  clear hb3 hb5 hB0 hW0
  refine wpIn_range_T 62 rfl (by omega) (gf := 86) (lb := #[.pointer (some ⟨w.heap.size + 1 + 1, 0, none⟩)]) rfl trivial (enters_of Try.func86 (by kernel_rfl) rfl)
    (dwith_seq Fence.wide rfl trivial trivial rfl (6 - 1) k (w.heap.size + 1 + 1) hk W0 (by omega) hbn) (Below.refl _ _) (fun _ => rfl)
    (IW w H (.func (.func ff) fp fc)) (fun _ _ _ => False) (iw_from w H _ _ (by omega)) (fun _ _ _ _ _ h _ _ => h) (iw_abt w H _ _ (by omega)) (fun _ => ⟨fun _ _ _ h => h, fun _ _ _ h => h, fun _ _ _ _ _ _ _ h _ _ => h⟩) hI0
    (AxW w k (.func (.func ff) fp fc)) ?hax ?assign ?body ?done ?stop
  case hax =>
    rintro a' s W W' row ⟨Bx, hBx, hb, rfl⟩ hg hr
    refine ⟨Bx, hBx, hb.grown hg (fun e => ?_), rfl⟩
    obtain ⟨_, o, ho, hc⟩ := hr Bx e.symm
    rw [show W.heap[Bx]? = _ from hb] at ho; injection ho with ho; subst ho; simp [Obj.isCells] at hc
  case assign =>
    intro l pre x W K hi hK
    have hlen : x.1.length ≤ 16 := (valid_bd x.2).2.2.2
    have hi16 : (Try.prog.info? 62).map (·.size) = some (arr (pad x.1)).size := by rw [arr_size, pad_len hlen]; exact T_info35
    have hszx : (arr (pad x.1)).size = (arr (List.replicate 16 0)).size := by rw [arr_size, arr_size, pad_len hlen]; rfl
    have hbz := Blk.new W 62 (arr (List.replicate 16 0))
    have hbw : Below W.heap.size W ((W.alloc (.cells (arr (List.replicate 16 0)) 62)).setRow W.heap.size (arr (pad x.1))) := below_setRow' ((Below.refl _ _).alloc (Nat.le_refl _) _) (Nat.le_refl _) _
    have hlt := hi.1.choose_spec.choose_spec.1.lt
    gi_wp2_with (refine wpListIn_store_row rfl 62 (.tmp 6) (.tmp 9) rfl W.heap.size (arr (pad x.1)) rfl rfl (run_storeVar_row _ W.heap.size 62 62 _ _ hbz hi16 hszx (arr_one _)) ?_)
    exact hK _ _ (ko_below hbw) (KpT.below hbw) (iw_below hi hbw) ⟨W.heap.size, by omega, hbz.row, rfl⟩
  case body =>
    rintro l pre x a' W ⟨⟨v, vs, hb5, hLL⟩, hb3, hB⟩ ⟨Bx, hBx, hbx, rfl⟩ hlen
    have hpl : x.1.length ≤ 16 := (valid_bd x.2).2.2.2
    have hi16 : (Try.prog.info? 62).map (·.size) = some (arr (pad x.1)).size := by rw [arr_size, pad_len hpl]; exact T_info35
    have c3 : W.cell? ⟨w.heap.size, 0, none⟩ = some (.func (.func ff) fp fc) := by rw [hb3.cell 0]; rfl
    have hhx := hh W hB x.1 x.2
    rw [← hH0] at hhx
    have hIW : IW w H (.func (.func ff) fp fc) pre W := ⟨⟨v, vs, hb5, hLL⟩, hb3, hB⟩
    cases hH : H x with
    | false =>
      rw [hH] at hhx
      have hf : (pre ++ [x]).filter H = pre.filter H := by rw [List.filter_append]; simp [hH]
      gi_wp2_with (first
        | (refine wpListIn_load_row rfl 62 (.tmp 6) rfl Bx rfl 62 (arr (pad x.1)) (0, 0) _ hbx Try.underlying62 rfl hi16 ?_)
        | (refine ⟨trivial, ?_⟩; refine (CallsIn.inRound l (callsIn_wide.2 hhx)).mono ?_; rintro e W1 ⟨rfl, hb1⟩))
      refine ⟨ko_below hb1, KpT.below hb1, ?_⟩
      have := iw_below hIW hb1
      unfold IW at this ⊢
      rw [hf]
      exact this
    | true =>
      rw [hH] at hhx
      gi_wp2_with (first
        | (refine wpListIn_load_row rfl 62 (.tmp 6) rfl Bx rfl 62 (arr (pad x.1)) (0, 0) _ hbx Try.underlying62 rfl hi16 ?_)
        | (refine ⟨trivial, ?_⟩; refine (CallsIn.inRound l (callsIn_wide.2 hhx)).mono ?_; rintro e W1 ⟨rfl, hb1⟩))
      have hmx : Try.prog.follows .mixedOrders = true := by kernel_rfl
      obtain ⟨i22, hi22, hq0, hq1, hq2⟩ := info_parts T_ints2
      have hvl : vs.length ≤ 1000 := by
        have h1 := hLL.len
        have h2 := List.length_filter_le H pre
        have h3 := allQ_len hk
        rw [List.length_map] at h1
        omega
      have hIW1 := iw_below hIW hb1
      have hbx1 := hbx.below hb1 hbx.lt
      refine wpIn_region_any hmx ?_
      obtain ⟨y, hy⟩ : ∃ y, W1.drew = y := ⟨_, rfl⟩
      change wpAnyIn _ _ _ _ _ _ _ _ _ (World.drew _)
      rw [hy]
      have hb1y : Below W.heap.size W y := by rw [← hy]; exact hb1.trans ((Dr.n W1 1).below _)
      have hb5y : Blk y (w.heap.size + 1) 32 #[v] := hb5.below hb1y hb5.lt
      have c5y : y.cell? ⟨w.heap.size + 1, 0, none⟩ = some v := by rw [hb5y.cell 0]; rfl
      have hlt5y : w.heap.size + 1 < y.heap.size := hb5y.lt
      have hbxy : Blk y Bx 62 (arr (pad x.1)) := hbx.below hb1y hbx.lt
      have hld := run_loadVar_row y Bx 62 62 (arr (pad x.1)) (0, 0) _ hbxy Try.underlying62 rfl hi16
      refine wpAnyIn_ready (rs := [0, 1]) (by kernel_rfl) (by simp) ?_
      refine AllReadyIn.cons rfl (fun K hK => ?_) ?_
      · skip
        rw [if_pos (by rfl)]
        refine opIn_val (v := v) (w' := y) (by simp [Oper.about]) (by have hc := c5y; go_simp) ?_
        refine hK _ _ ?_
        clear hK K
        try simp only [Act.put, List.setIfInBounds_toArray, List.set_cons_zero, List.set_cons_succ]
        refine wpAnyIn_ready (rs := [1]) (by kernel_rfl) (by simp) ?_
        refine AllReadyIn.cons rfl (fun K hK => ?_) AllReadyIn.nil
        rw [if_pos (by rfl)]
        refine opIn_loadv 62 (.tmp 6) rfl ⟨Bx, 0, none⟩ rfl hld ?_
        refine hK _ _ ?_
        clear hK K
        try simp only [Act.put, List.setIfInBounds_toArray, List.set_cons_zero, List.set_cons_succ]
        refine wpAnyIn_ready (rs := [2]) (by kernel_rfl) (by simp) ?_
        refine AllReadyIn.cons rfl (fun K hK => ?_) AllReadyIn.nil
        rw [if_pos (by rfl)]
        go_simp
        refine ⟨trivial, ?_⟩
        gi_at_call 71
        refine (CallsIn.inRound l (callsIn_wide.2 (list_any x.1 x.2 y))).mono ?_
        rintro e W2 ⟨u, rfl, hu, hb2⟩
        have hB2 := hb1y.trans (hb2.mono hb1y.size)
        have c5b : W2.cell? ⟨w.heap.size + 1, 0, none⟩ = some v := (hb2.cell (p := ⟨w.heap.size + 1, 0, none⟩) hlt5y).trans c5y
        have hu' := hu
        obtain ⟨W3, hW3⟩ : ∃ W3, W2.alloc (.cells #[.slice u x.1.length x.1.length] 25) = W3 := ⟨_, rfl⟩
        have c5c : W3.cell? ⟨w.heap.size + 1, 0, none⟩ = some v := by rw [← hW3]; exact (((Below.refl W2.heap.size W2).alloc (Nat.le_refl _) _).cell (p := ⟨w.heap.size + 1, 0, none⟩) (World.block_lt_of_cell? W2 _ c5b)).trans c5b
        refine hK _ _ ?_
        clear hK K
        try simp only [Act.put, List.setIfInBounds_toArray, List.set_cons_zero, List.set_cons_succ]
        refine wpAnyIn_ready (rs := [3]) (by kernel_rfl) (by simp) ?_
        refine AllReadyIn.cons rfl (fun K hK => ?_) AllReadyIn.nil
        rw [if_pos (by rfl)]
        refine opIn_val (v := .slice (some ⟨W2.heap.size, 0, none⟩) 1 1) (w' := W3) (by simp [Oper.about]) (by rw [← hW3]; go_simp) ?_
        refine hK _ _ ?_
        clear hK K
        try simp only [Act.put, List.setIfInBounds_toArray, List.set_cons_zero, List.set_cons_succ]
        refine wpAnyIn_ready (rs := [4]) (by kernel_rfl) (by simp) ?_
        refine AllReadyIn.cons rfl (fun K hK => ?_) AllReadyIn.nil
        rw [if_pos (by rfl)]
        have hoW3 : Own W3 (w.heap.size + 2) W.heap.size 25 v vs := by rw [← hW3]; exact (hLL.outer.below hB2).alloc _
        have hrW3 : Rd W3 (W2.heap.size + 1) (some ⟨W2.heap.size, 0, none⟩) [.slice u x.1.length x.1.length] := by rw [← hW3]; exact Rd.one W2 _ _
        have hs3 : W3.heap.size = W2.heap.size + 1 := by rw [← hW3]; simp
        have hB3 : Below W.heap.size W W3 := by rw [← hW3]; exact hB2.alloc hB2.size _
        obtain ⟨v', W4, hrun, ho4, hg4, hat4⟩ := run_append_o (P := Try.prog) (m := 1) (c := 1) W3 (w.heap.size + 2) W.heap.size 32 32 25 i22 (.slice none 0 0) 24 Try.underlying32 hi22 hq0 hq1 hq2 rfl hoW3 hrW3 rfl (by simp; rfl) (by unfold maxLen; omega) (by omega) (by have := hb5.lt; have := hB3.size; omega)
        refine opIn_append (.tmp 13) (.tmp 16) 32 rfl rfl rfl hrun ?_
        refine hK _ _ ?_
        clear hK K
        try simp only [Act.put, List.setIfInBounds_toArray, List.set_cons_zero, List.set_cons_succ]
        refine wpAnyIn_ready (rs := [5]) (by kernel_rfl) (by simp) ?_
        refine AllReadyIn.cons rfl (fun K hK => ?_) AllReadyIn.nil
        have b5c : Blk W3 (w.heap.size + 1) 32 #[v] := hb5.below hB3 hb5.lt
        have b5d : Blk W4 (w.heap.size + 1) 32 #[v] := b5c.grown hg4 (fun e => by have := hoW3.base _ e.symm; omega)
        have c5d : W4.cell? ⟨w.heap.size + 1, 0, none⟩ = some v := by rw [b5d.cell 0]; rfl
        have f5d : W4.frozen? ⟨w.heap.size + 1, 0, none⟩ = false := b5d.free 0
        rw [if_pos (by rfl)]
        refine opIn_store 32 (.tmp 5) (.tmp 17) rfl ⟨w.heap.size + 1, 0, none⟩ rfl (w' := W4.setCell ⟨w.heap.size + 1, 0, none⟩ v') (by have hq := c5d; have hq' := f5d; obtain ⟨av, cv, rfl⟩ := ho4.form; go_simp) ?_
        refine hK _ _ ?_
        clear hK K
        try simp only [Act.put, List.setIfInBounds_toArray, List.set_cons_zero, List.set_cons_succ]
        refine wpAnyIn_done (by kernel_rfl) ?_ _
        exact round_end hLL hb5 hb3 hB hH hB3 (by rw [← hW3]; exact hu'.alloc _) hb1y.size ho4 hg4 hat4
      refine AllReadyIn.cons rfl (fun K hK => ?_) AllReadyIn.nil
      rw [if_pos (by rfl)]
      refine opIn_loadv 62 (.tmp 6) rfl ⟨Bx, 0, none⟩ rfl hld ?_
      refine hK _ _ ?_
      clear hK K
      try simp only [Act.put, List.setIfInBounds_toArray, List.set_cons_zero, List.set_cons_succ]
      refine wpAnyIn_ready (rs := [0, 2]) (by kernel_rfl) (by simp) ?_
      refine AllReadyIn.cons rfl (fun K hK => ?_) ?_
      · skip
        rw [if_pos (by rfl)]
        refine opIn_val (v := v) (w' := y) (by simp [Oper.about]) (by have hc := c5y; go_simp) ?_
        refine hK _ _ ?_
        clear hK K
        try simp only [Act.put, List.setIfInBounds_toArray, List.set_cons_zero, List.set_cons_succ]
        refine wpAnyIn_ready (rs := [2]) (by kernel_rfl) (by simp) ?_
        refine AllReadyIn.cons rfl (fun K hK => ?_) AllReadyIn.nil
        rw [if_pos (by rfl)]
        go_simp
        refine ⟨trivial, ?_⟩
        gi_at_call 71
        refine (CallsIn.inRound l (callsIn_wide.2 (list_any x.1 x.2 y))).mono ?_
        rintro e W2 ⟨u, rfl, hu, hb2⟩
        have hB2 := hb1y.trans (hb2.mono hb1y.size)
        have c5b : W2.cell? ⟨w.heap.size + 1, 0, none⟩ = some v := (hb2.cell (p := ⟨w.heap.size + 1, 0, none⟩) hlt5y).trans c5y
        have hu' := hu
        obtain ⟨W3, hW3⟩ : ∃ W3, W2.alloc (.cells #[.slice u x.1.length x.1.length] 25) = W3 := ⟨_, rfl⟩
        have c5c : W3.cell? ⟨w.heap.size + 1, 0, none⟩ = some v := by rw [← hW3]; exact (((Below.refl W2.heap.size W2).alloc (Nat.le_refl _) _).cell (p := ⟨w.heap.size + 1, 0, none⟩) (World.block_lt_of_cell? W2 _ c5b)).trans c5b
        refine hK _ _ ?_
        clear hK K
        try simp only [Act.put, List.setIfInBounds_toArray, List.set_cons_zero, List.set_cons_succ]
        refine wpAnyIn_ready (rs := [3]) (by kernel_rfl) (by simp) ?_
        refine AllReadyIn.cons rfl (fun K hK => ?_) AllReadyIn.nil
        rw [if_pos (by rfl)]
        refine opIn_val (v := .slice (some ⟨W2.heap.size, 0, none⟩) 1 1) (w' := W3) (by simp [Oper.about]) (by rw [← hW3]; go_simp) ?_
        refine hK _ _ ?_
        clear hK K
        try simp only [Act.put, List.setIfInBounds_toArray, List.set_cons_zero, List.set_cons_succ]
        refine wpAnyIn_ready (rs := [4]) (by kernel_rfl) (by simp) ?_
        refine AllReadyIn.cons rfl (fun K hK => ?_) AllReadyIn.nil
        rw [if_pos (by rfl)]
        have hoW3 : Own W3 (w.heap.size + 2) W.heap.size 25 v vs := by rw [← hW3]; exact (hLL.outer.below hB2).alloc _
        have hrW3 : Rd W3 (W2.heap.size + 1) (some ⟨W2.heap.size, 0, none⟩) [.slice u x.1.length x.1.length] := by rw [← hW3]; exact Rd.one W2 _ _
        have hs3 : W3.heap.size = W2.heap.size + 1 := by rw [← hW3]; simp
        have hB3 : Below W.heap.size W W3 := by rw [← hW3]; exact hB2.alloc hB2.size _
        obtain ⟨v', W4, hrun, ho4, hg4, hat4⟩ := run_append_o (P := Try.prog) (m := 1) (c := 1) W3 (w.heap.size + 2) W.heap.size 32 32 25 i22 (.slice none 0 0) 24 Try.underlying32 hi22 hq0 hq1 hq2 rfl hoW3 hrW3 rfl (by simp; rfl) (by unfold maxLen; omega) (by omega) (by have := hb5.lt; have := hB3.size; omega)
        refine opIn_append (.tmp 13) (.tmp 16) 32 rfl rfl rfl hrun ?_
        refine hK _ _ ?_
        clear hK K
        try simp only [Act.put, List.setIfInBounds_toArray, List.set_cons_zero, List.set_cons_succ]
        refine wpAnyIn_ready (rs := [5]) (by kernel_rfl) (by simp) ?_
        refine AllReadyIn.cons rfl (fun K hK => ?_) AllReadyIn.nil
        have b5c : Blk W3 (w.heap.size + 1) 32 #[v] := hb5.below hB3 hb5.lt
        have b5d : Blk W4 (w.heap.size + 1) 32 #[v] := b5c.grown hg4 (fun e => by have := hoW3.base _ e.symm; omega)
        have c5d : W4.cell? ⟨w.heap.size + 1, 0, none⟩ = some v := by rw [b5d.cell 0]; rfl
        have f5d : W4.frozen? ⟨w.heap.size + 1, 0, none⟩ = false := b5d.free 0
        rw [if_pos (by rfl)]
        refine opIn_store 32 (.tmp 5) (.tmp 17) rfl ⟨w.heap.size + 1, 0, none⟩ rfl (w' := W4.setCell ⟨w.heap.size + 1, 0, none⟩ v') (by have hq := c5d; have hq' := f5d; obtain ⟨av, cv, rfl⟩ := ho4.form; go_simp) ?_
        refine hK _ _ ?_
        clear hK K
        try simp only [Act.put, List.setIfInBounds_toArray, List.set_cons_zero, List.set_cons_succ]
        refine wpAnyIn_done (by kernel_rfl) ?_ _
        exact round_end hLL hb5 hb3 hB hH hB3 (by rw [← hW3]; exact hu'.alloc _) hb1y.size ho4 hg4 hat4
      refine AllReadyIn.cons rfl (fun K hK => ?_) AllReadyIn.nil
      rw [if_pos (by rfl)]
      go_simp
      refine ⟨trivial, ?_⟩
      gi_at_call 71
      refine (CallsIn.inRound l (callsIn_wide.2 (list_any x.1 x.2 y))).mono ?_
      rintro e W2 ⟨u, rfl, hu, hb2⟩
      have hB2 := hb1y.trans (hb2.mono hb1y.size)
      have c5b : W2.cell? ⟨w.heap.size + 1, 0, none⟩ = some v := (hb2.cell (p := ⟨w.heap.size + 1, 0, none⟩) hlt5y).trans c5y
      have hu' := hu
      obtain ⟨W3, hW3⟩ : ∃ W3, W2.alloc (.cells #[.slice u x.1.length x.1.length] 25) = W3 := ⟨_, rfl⟩
      have c5c : W3.cell? ⟨w.heap.size + 1, 0, none⟩ = some v := by rw [← hW3]; exact (((Below.refl W2.heap.size W2).alloc (Nat.le_refl _) _).cell (p := ⟨w.heap.size + 1, 0, none⟩) (World.block_lt_of_cell? W2 _ c5b)).trans c5b
      refine hK _ _ ?_
      clear hK K
      try simp only [Act.put, List.setIfInBounds_toArray, List.set_cons_zero, List.set_cons_succ]
      refine wpAnyIn_ready (rs := [0, 3]) (by kernel_rfl) (by simp) ?_
      refine AllReadyIn.cons rfl (fun K hK => ?_) ?_
      · skip
        rw [if_pos (by rfl)]
        refine opIn_val (v := v) (w' := W2) (by simp [Oper.about]) (by have hc := c5b; go_simp) ?_
        refine hK _ _ ?_
        clear hK K
        try simp only [Act.put, List.setIfInBounds_toArray, List.set_cons_zero, List.set_cons_succ]
        refine wpAnyIn_ready (rs := [3]) (by kernel_rfl) (by simp) ?_
        refine AllReadyIn.cons rfl (fun K hK => ?_) AllReadyIn.nil
        rw [if_pos (by rfl)]
        refine opIn_val (v := .slice (some ⟨W2.heap.size, 0, none⟩) 1 1) (w' := W3) (by simp [Oper.about]) (by rw [← hW3]; go_simp) ?_
        refine hK _ _ ?_
        clear hK K
        try simp only [Act.put, List.setIfInBounds_toArray, List.set_cons_zero, List.set_cons_succ]
        refine wpAnyIn_ready (rs := [4]) (by kernel_rfl) (by simp) ?_
        refine AllReadyIn.cons rfl (fun K hK => ?_) AllReadyIn.nil
        rw [if_pos (by rfl)]
        have hoW3 : Own W3 (w.heap.size + 2) W.heap.size 25 v vs := by rw [← hW3]; exact (hLL.outer.below hB2).alloc _
        have hrW3 : Rd W3 (W2.heap.size + 1) (some ⟨W2.heap.size, 0, none⟩) [.slice u x.1.length x.1.length] := by rw [← hW3]; exact Rd.one W2 _ _
        have hs3 : W3.heap.size = W2.heap.size + 1 := by rw [← hW3]; simp
        have hB3 : Below W.heap.size W W3 := by rw [← hW3]; exact hB2.alloc hB2.size _
        obtain ⟨v', W4, hrun, ho4, hg4, hat4⟩ := run_append_o (P := Try.prog) (m := 1) (c := 1) W3 (w.heap.size + 2) W.heap.size 32 32 25 i22 (.slice none 0 0) 24 Try.underlying32 hi22 hq0 hq1 hq2 rfl hoW3 hrW3 rfl (by simp; rfl) (by unfold maxLen; omega) (by omega) (by have := hb5.lt; have := hB3.size; omega)
        refine opIn_append (.tmp 13) (.tmp 16) 32 rfl rfl rfl hrun ?_
        refine hK _ _ ?_
        clear hK K
        try simp only [Act.put, List.setIfInBounds_toArray, List.set_cons_zero, List.set_cons_succ]
        refine wpAnyIn_ready (rs := [5]) (by kernel_rfl) (by simp) ?_
        refine AllReadyIn.cons rfl (fun K hK => ?_) AllReadyIn.nil
        have b5c : Blk W3 (w.heap.size + 1) 32 #[v] := hb5.below hB3 hb5.lt
        have b5d : Blk W4 (w.heap.size + 1) 32 #[v] := b5c.grown hg4 (fun e => by have := hoW3.base _ e.symm; omega)
        have c5d : W4.cell? ⟨w.heap.size + 1, 0, none⟩ = some v := by rw [b5d.cell 0]; rfl
        have f5d : W4.frozen? ⟨w.heap.size + 1, 0, none⟩ = false := b5d.free 0
        rw [if_pos (by rfl)]
        refine opIn_store 32 (.tmp 5) (.tmp 17) rfl ⟨w.heap.size + 1, 0, none⟩ rfl (w' := W4.setCell ⟨w.heap.size + 1, 0, none⟩ v') (by have hq := c5d; have hq' := f5d; obtain ⟨av, cv, rfl⟩ := ho4.form; go_simp) ?_
        refine hK _ _ ?_
        clear hK K
        try simp only [Act.put, List.setIfInBounds_toArray, List.set_cons_zero, List.set_cons_succ]
        refine wpAnyIn_done (by kernel_rfl) ?_ _
        exact round_end hLL hb5 hb3 hB hH hB3 (by rw [← hW3]; exact hu'.alloc _) hb1y.size ho4 hg4 hat4
      refine AllReadyIn.cons rfl (fun K hK => ?_) AllReadyIn.nil
      rw [if_pos (by rfl)]
      refine opIn_val (v := .slice (some ⟨W2.heap.size, 0, none⟩) 1 1) (w' := W3) (by simp [Oper.about]) (by rw [← hW3]; go_simp) ?_
      refine hK _ _ ?_
      clear hK K
      try simp only [Act.put, List.setIfInBounds_toArray, List.set_cons_zero, List.set_cons_succ]
      refine wpAnyIn_ready (rs := [0]) (by kernel_rfl) (by simp) ?_
      refine AllReadyIn.cons rfl (fun K hK => ?_) AllReadyIn.nil
      rw [if_pos (by rfl)]
      refine opIn_val (v := v) (w' := W3) (by simp [Oper.about]) (by have hc := c5c; go_simp) ?_
      refine hK _ _ ?_
      clear hK K
      try simp only [Act.put, List.setIfInBounds_toArray, List.set_cons_zero, List.set_cons_succ]
      refine wpAnyIn_ready (rs := [4]) (by kernel_rfl) (by simp) ?_
      refine AllReadyIn.cons rfl (fun K hK => ?_) AllReadyIn.nil
      rw [if_pos (by rfl)]
      have hoW3 : Own W3 (w.heap.size + 2) W.heap.size 25 v vs := by rw [← hW3]; exact (hLL.outer.below hB2).alloc _
      have hrW3 : Rd W3 (W2.heap.size + 1) (some ⟨W2.heap.size, 0, none⟩) [.slice u x.1.length x.1.length] := by rw [← hW3]; exact Rd.one W2 _ _
      have hs3 : W3.heap.size = W2.heap.size + 1 := by rw [← hW3]; simp
      have hB3 : Below W.heap.size W W3 := by rw [← hW3]; exact hB2.alloc hB2.size _
      obtain ⟨v', W4, hrun, ho4, hg4, hat4⟩ := run_append_o (P := Try.prog) (m := 1) (c := 1) W3 (w.heap.size + 2) W.heap.size 32 32 25 i22 (.slice none 0 0) 24 Try.underlying32 hi22 hq0 hq1 hq2 rfl hoW3 hrW3 rfl (by simp; rfl) (by unfold maxLen; omega) (by omega) (by have := hb5.lt; have := hB3.size; omega)
      refine opIn_append (.tmp 13) (.tmp 16) 32 rfl rfl rfl hrun ?_
      refine hK _ _ ?_
      clear hK K
      try simp only [Act.put, List.setIfInBounds_toArray, List.set_cons_zero, List.set_cons_succ]
      refine wpAnyIn_ready (rs := [5]) (by kernel_rfl) (by simp) ?_
      refine AllReadyIn.cons rfl (fun K hK => ?_) AllReadyIn.nil
      have b5c : Blk W3 (w.heap.size + 1) 32 #[v] := hb5.below hB3 hb5.lt
      have b5d : Blk W4 (w.heap.size + 1) 32 #[v] := b5c.grown hg4 (fun e => by have := hoW3.base _ e.symm; omega)
      have c5d : W4.cell? ⟨w.heap.size + 1, 0, none⟩ = some v := by rw [b5d.cell 0]; rfl
      have f5d : W4.frozen? ⟨w.heap.size + 1, 0, none⟩ = false := b5d.free 0
      rw [if_pos (by rfl)]
      refine opIn_store 32 (.tmp 5) (.tmp 17) rfl ⟨w.heap.size + 1, 0, none⟩ rfl (w' := W4.setCell ⟨w.heap.size + 1, 0, none⟩ v') (by have hq := c5d; have hq' := f5d; obtain ⟨av, cv, rfl⟩ := ho4.form; go_simp) ?_
      refine hK _ _ ?_
      clear hK K
      try simp only [Act.put, List.setIfInBounds_toArray, List.set_cons_zero, List.set_cons_succ]
      refine wpAnyIn_done (by kernel_rfl) ?_ _
      exact round_end hLL hb5 hb3 hB hH hB3 (by rw [← hW3]; exact hu'.alloc _) hb1y.size ho4 hg4 hat4

  case done =>
    rintro D ys W hD hS hIW hK
    clear hH0
    have hIW2 := (iw_from w H (.func (.func ff) fp fc) w.heap.size (Nat.le_refl _)).putObj (.deferred none) hIW (by omega) hK rfl
    obtain ⟨⟨v, vs, hb5, hLL⟩, hb3, hB⟩ := hIW
    obtain ⟨⟨v2, vs2, hb52, hLL2⟩, -, hB2⟩ := hIW2
    have c5 : W.cell? ⟨w.heap.size + 1, 0, none⟩ = some v := by rw [hb5.cell 0]; rfl
    have hvv : v2 = v := by
      have hne : w.heap.size + 1 ≠ D := by rintro rfl; rw [show W.heap[w.heap.size + 1]? = _ from hb5] at hK; cases hK
      have e := (World.putObj_heap_other (w := W) (o := .deferred none) hne).symm.trans (show (W.putObj D (.deferred none)).heap[w.heap.size + 1]? = _ from hb52)
      rw [show W.heap[w.heap.size + 1]? = _ from hb5] at e
      injection e with e
      injection e with e _ _
      injection e with e
      simpa using e.symm
    subst hvv
    obtain ⟨av, cv, rfl⟩ := hLL.form
    gi_wp2
    refine ⟨by simp, .inl ⟨_, _, rfl, run_takeDeferred hK, ?_⟩⟩
    refine ⟨_, results_tmp rfl _ _ _, ys, av, cv, vs2, hS, by simp, hLL2.lower (by omega), hB2⟩
  case stop =>
    rintro D c pre W _ _ h _
    exact h.elim
end Go.Proofs.Ytifhnjnpbpgjfaa
namespace Go.Proofs.Ytifhnjnpbpgjfaa
open Go.RowKit NP
set_option maxRecDepth 8000
set_option linter.unusedVariables false
set_option linter.unusedSimpArgs false
theorem filter_VL {xs : List VL} {l : List (List Int)} (h : xs.map (·.1) = l) (H0 : List Int → Bool) : (xs.filter (fun x => H0 x.1)).map (·.1) = l.filter H0 := by
  rw [← h, List.filter_map]; rfl
theorem partsWhere_all (k : Nat) (hk : k ≤ 16) (fv : Value) (H0 : List Int → Bool) (w : World) (hfv : IsK w fv H0) :
    Calls Try.prog 62 #[.int .i64 k, fv] w fun e w' => ∃ (a' : Option Addr) (c' : Nat) (vs : List Value), e = .returned (.slice a' ((allQ k k k).filter H0).length c') ∧ OwnLL w' w.heap.size w'.heap.size 25 3 (.slice a' ((allQ k k k).filter H0).length c') vs ((allQ k k k).filter H0) ∧ Below w.heap.size w w' := by
  refine (partsWhere_any k hk fv H0 w hfv (fun x => H0 x.1) (fun _ => rfl)).mono ?_
  rintro e w' ⟨xs, a', c', vs, hxs, rfl, hLL, hb⟩
  have e1 := filter_VL hxs H0
  rw [e1] at hLL
  exact ⟨a', c', vs, by rw [e1], hLL, hb⟩
theorem listWhere_any (k : Nat) (hk : k ≤ 12) (fv : Value) (H0 : List Int → Bool) (w : World) (hfv : IsK w fv H0) :
    Calls Try.prog 41 #[.int .i64 k, fv] w fun e w' => ∃ (a' : Option Addr) (c' : Nat) (vs : List Value), e = .returned (.slice a' ((allQ k k k).filter H0).length c') ∧ OwnLL w' w.heap.size w'.heap.size 25 3 (.slice a' ((allQ k k k).filter H0).length c') vs ((allQ k k k).filter H0) ∧ Below w.heap.size w w' := by
  have d1 : decide ((k : Int) < 0) = false := decide_eq_false (by omega)
  have d2 : decide ((12 : Int) < (k : Int)) = false := decide_eq_false (by omega)
  have d2' : decide (12 < k) = false := decide_eq_false (by omega)
  go_enter Try.func41, Try.ntmps41
  go_wp2_with (go_at_call 62; refine (partsWhere_all k (by omega) fv H0 _ hfv).mono ?_; rintro e w1 ⟨a', c', vs, rfl, hLL, hb⟩)
  go_ret
  exact ⟨a', c', vs, rfl, hLL, hb⟩
theorem listWhere_no (n : Int) (h : ¬ (0 ≤ n ∧ n ≤ 12)) (f : Value) (w : World) :
    Calls Try.prog 41 #[.int .i64 n, f] w fun e w' => e = .returned (.slice none 0 0) ∧ Below w.heap.size w w' := by
  by_cases h0 : n < 0
  · have d1 : decide (n < 0) = true := decide_eq_true h0
    go_enter Try.func41, Try.ntmps41
    go_wp2_with fail
    go_ret
    exact ⟨rfl, Below.refl _ _⟩
  · have d1 : decide (n < 0) = false := decide_eq_false h0
    have d2 : decide (12 < n) = true := decide_eq_true (by omega)
    go_enter Try.func41, Try.ntmps41
    go_wp2_with fail
    go_ret
    exact ⟨rfl, Below.refl _ _⟩
end Go.Proofs.Ytifhnjnpbpgjfaa
namespace Go.Proofs.Ytifhnjnpbpgjfaa
open Go.RowKit NP
set_option maxRecDepth 8000
set_option linter.unusedVariables false
set_option linter.unusedSimpArgs false
def apF (n : Int) : List (List Int) := if 0 ≤ n ∧ n ≤ 12 then allQ n.toNat n.toNat n.toNat else []
theorem apF_yes {n : Nat} (h : n ≤ 12) : apF (n : Int) = allQ n n n := by unfold apF; rw [if_pos (by omega)]; simp
theorem apF_no {n : Int} (h : ¬ (0 ≤ n ∧ n ≤ 12)) : apF n = [] := by unfold apF; rw [if_neg h]

end Go.Proofs.Ytifhnjnpbpgjfaa
namespace Go.Proofs.Ytifhnjnpbpgjfaa
open Go.RowKit NP
set_option maxRecDepth 8000
set_option linter.unusedVariables false
set_option linter.unusedSimpArgs false
theorem cntQQ : (List.range 13).all (fun k => decide (cntLL (allQ k k k) ≤ 2000)) = true := by decide +kernel
theorem apF_cnt (n : Int) : cntLL (apF n) ≤ 2000 := by
  unfold apF
  split
  · have := List.all_eq_true.1 cntQQ n.toNat (by simp; omega)
    simpa using this
  · simp [cntLL]
theorem apF_few2 (n : Int) : (apF n).length ≤ 1000 := by
  unfold apF
  split
  · exact allQ_len (by omega)
  · simp
theorem apF_shortTab : (List.range 13).all (fun k => (allQ k k k).all fun X => decide (X.length ≤ 16)) = true := by decide +kernel
theorem apF_short2 (n : Int) : ∀ X ∈ apF n, X.length ≤ 4611686018427387904 := by
  intro X hX
  unfold apF at hX
  split at hX
  · have h1 := List.all_eq_true.1 apF_shortTab n.toNat (by simp; omega)
    have h2 := List.all_eq_true.1 h1 X hX
    simp at h2
    omega
  · simp at hX
end Go.Proofs.Ytifhnjnpbpgjfaa
namespace Go.Proofs.Ytifhnjnpbpgjfaa
open Go.RowKit NP
set_option maxRecDepth 8000
set_option linter.unusedVariables false
set_option linter.unusedSimpArgs false
/-- the parts of the kind of a name with a sum -/
def kpF (l : List UInt8) (n : Int) : List (List Int) := match kindOf l with
  | some K => if 0 ≤ n ∧ n ≤ 12 then (allQ n.toNat n.toNat n.toNat).filter K else []
  | none => []
def kpOk (l : List UInt8) (n : Int) : Bool := (kindOf l).isSome && decide (0 ≤ n) && decide (n ≤ 12)
def kcF (l : List UInt8) (n : Int) : Int := if kpOk l n = true then ((kpF l n).length : Int) else -1
theorem kpF_none {l : List UInt8} (h : kindOf l = none) (n : Int) : kpF l n = [] := by unfold kpF; rw [h]
theorem kpF_some {l : List UInt8} {K : List Int → Bool} (h : kindOf l = some K) {n : Nat} (hn : n ≤ 12) : kpF l (n : Int) = (allQ n n n).filter K := by
  unfold kpF; rw [h]; simp only; rw [if_pos (by omega), Int.toNat_natCast]
theorem kpF_out {l : List UInt8} {n : Int} (h : ¬ (0 ≤ n ∧ n ≤ 12)) : kpF l n = [] := by
  unfold kpF
  split
  · rw [if_neg h]
  · rfl
theorem kcF_none {l : List UInt8} (h : kindOf l = none) (n : Int) : kcF l n = -1 := by unfold kcF kpOk; rw [h]; rfl
theorem kcF_out {l : List UInt8} {n : Int} (h : ¬ (0 ≤ n ∧ n ≤ 12)) : kcF l n = -1 := by
  unfold kcF
  rw [if_neg]
  unfold kpOk
  intro hh
  simp at hh
  exact h ⟨hh.1.2, hh.2⟩
theorem kcF_some {l : List UInt8} {K : List Int → Bool} (h : kindOf l = some K) {n : Nat} (hn : n ≤ 12) : kcF l (n : Int) = ((kpF l (n : Int)).length : Int) := by
  unfold kcF
  rw [if_pos]
  unfold kpOk
  rw [h]
  simp; omega
theorem filter_len {l : List UInt8} {K : List Int → Bool} (h : kindOf l = some K) {n : Nat} (hn : n ≤ 12) : (kpF l (n : Int)).length ≤ 1000 := by
  rw [kpF_some h hn]
  exact Nat.le_trans (List.length_filter_le _ _) (allQ_len (by omega))
set_option maxHeartbeats 4000000 in
theorem kindList_ll (s : ByteArray) (K : List Int → Bool) (hSK : SK s K) (n : Nat) (hn : n ≤ 12) (w : World) :
    Calls Try.prog 44 #[.string s, .int .i64 (n : Int)] w fun e w' => ∃ (a' : Option Addr) (c' : Nat) (us : List Value), e = .returned (.slice a' ((allQ n n n).filter K).length c') ∧ OwnLL w' w.heap.size w'.heap.size 25 3 (.slice a' ((allQ n n n).filter K).length c') us ((allQ n n n).filter K) ∧ Below w.heap.size w w' := by
  obtain ⟨i0, hi, hz0, hz1, hz2⟩ := T_int'
  obtain ⟨i1, hj, hy0, hy1, hy2⟩ := T_ints'
  have hE := OwnLL.empty w 25 3
  obtain ⟨w1, hw1⟩ : ∃ w1, w1 = w.alloc (.cells #[] 25) := ⟨_, rfl⟩
  have hb1 : Below w.heap.size w w1 := hw1 ▸ (Below.refl _ _).alloc (Nat.le_refl _) _
  have hz1' : w1.heap.size = w.heap.size + 1 := by rw [hw1, World.size_alloc]
  have HW1 := Lib.hid hw1
  have HZ1 := Lib.hid hz1'
  rw [← hw1] at hE
  clear hw1 hz1'
  have HZ2 : Hid ((w1.alloc (.cells #[] 3)).heap.size = w.heap.size + 1 + 1) := Lib.hid (by rw [World.size_alloc, HZ1.out])
  obtain ⟨LL, hLL⟩ : ∃ LL, LL = allQ n n n := ⟨_, rfl⟩
  have HOK : Hid (∀ L ∈ LL, valid L = true ∧ SmallParts L) := Lib.hid (hLL ▸ allQ_ok hn)
  have hle : LL.length ≤ 400 := hLL ▸ allQ_le (by omega) (by omega) (by omega)
  have HL := Lib.hid hLL
  clear hLL
  go_enter Try.func44, Try.ntmps44
  go_wp2_with fail
  rw [← HW1.out]
  refine (slist_lists n (by omega) n _ 0 (w1.alloc (.cells #[] 3)).heap.size [] n _ (Nat.le_refl _) (by simp; omega) (by omega) (fun h => absurd rfl h) (Nat.le_refl _)).mono ?_
  rintro e w2 ⟨a6, c6, vs, rfl, h6, hb2⟩
  rw [show List.map (fun x => [] ++ x) (allQ n n n) = allQ n n n from by simp, ← HL.out] at h6
  rw [← HL.out]
  rw [HZ2.out] at h6 hb2
  have HALL := Lib.hid (h6.lower (show w.heap.size + 1 ≤ w.heap.size + 1 + 1 by omega))
  clear h6
  have hbw2 : Below w.heap.size w w2 := (hb1.alloc hb1.size _).trans (hb2.mono (by omega))
  have hE2 := (hE.below ((Below.refl _ _).alloc (by have := HZ1.out; omega) (.cells #[] 3))).below (hb2.mono (show w.heap.size + 1 ≤ w.heap.size + 1 + 1 by omega))
  have hsz2 : w.heap.size + 1 ≤ w2.heap.size := by have := hb2.size; rw [HZ2.out] at this; omega
  go_wp2_with fail
  clear hE hb1 hb2
  go_loopw [5, 7] (fun v ii wr => ∃ (i : Nat) (us : List Value), ii = .int .i64 (i : Int) ∧ i ≤ LL.length ∧ us.length ≤ i ∧ OwnLL wr w.heap.size wr.heap.size 25 3 v us ((LL.take i).filter K) ∧ (∀ g, v.ownBlock = some g → g < w.heap.size + 1 ∨ w2.heap.size ≤ g) ∧ (∀ u ∈ us, ∃ j, j < i ∧ vs[j]? = some u) ∧ Kp w2 wr (w.heap.size + 1) ∧ Below w.heap.size w wr) (fun _ ii _ => LL.length - (intOf ii).toNat)
  case atStart => exact ⟨0, [], rfl, Nat.zero_le _, Nat.le_refl _, by simpa using hE2.more, fun g hg => by left; cases hg; exact Nat.lt_succ_self _, by simp, ⟨Nat.le_refl _, fun _ _ _ => rfl⟩, hbw2⟩
  case round =>
    obtain ⟨i, us, rfl, hiN, hui, ho, hout, hmem, hkp, hbel⟩ := hrel
    clear hE2 hbw2
    have HO := Lib.hid ho
    clear ho
    by_cases hlt : i < LL.length
    · have hlt' : (i : Int) < (LL.length : Int) := by omega
      obtain ⟨hv, hs⟩ := HOK.out _ (List.getElem_mem hlt)
      have HAL := Lib.hid (HALL.out.keep hkp.1 hkp.2)
      obtain ⟨gA, aM, cM, rfl, hgl, hgh, hcell, hoM, hvk⟩ := HAL.out.at_ hlt
      have HT := Lib.hid (show (LL.take (i + 1)).filter K = (LL.take i).filter K ++ [LL[i]].filter K by rw [List.take_succ_eq_append_getElem hlt, List.filter_append])
      obtain ⟨M, hM⟩ : ∃ M, M = LL[i] := ⟨_, rfl⟩
      rw [← hM] at hv hs hcell hoM hvk HT
      have HV := Lib.hid hv
      have HR := Lib.hid hoM.rd
      have HOM := Lib.hid hoM
      have HVK := Lib.hid hvk
      clear hv hs hM hoM hvk
      have hkz := hkp.1
      cases hK : K M with
      | false =>
        have HK := Lib.hid hK
        clear hK
        go_wp2_with (go_at_call 43; refine (hSK _ _ _ M _ HV.out HR.out (by omega)).mono ?_; rintro e w3 ⟨rfl, hb3⟩; rw [HK.out])
        go_roundw
        case rel =>
          refine ⟨i + 1, us, by go_num, by omega, by omega, ?_, hout, fun u hu => ?_, hkp.below hb3, hbel.trans (hb3.mono hbel.size)⟩
          · rw [HT.out]
            have e0 : [M].filter K = [] := by simp [HK.out]
            rw [e0, List.append_nil]
            exact (HO.out.below hb3).more
          · obtain ⟨j, h1, h2⟩ := hmem u hu
            exact ⟨j, by omega, h2⟩
        case measure => simp [intOf] <;> omega
      | true =>
        have HK := Lib.hid hK
        clear hK
        go_wp2_with (first
          | (at_builtin; refine wpList_append_o _ rfl (.tmp 31) (.tmp 36) 32 rfl w.heap.size w3.heap.size 25 i1 (.slice none 0 0) 24 Try.underlying32 hj hy0 hy1 hy2 rfl _ us rfl ((HO.out.outer.below hb3).more.alloc _) (w3.heap.size + 1) (some ⟨w3.heap.size, 0, none⟩) 1 1 [.slice aM M.length cM] rfl (Rd.one w3 _ _) rfl (by intro u hu; rw [List.mem_singleton.1 hu]; rfl) (by unfold maxLen; omega) (by omega) (by rw [World.size_alloc]; have := hbel.size; have := hb3.size; omega) ?_; intro v' w6 ho6 hg6 hat6)
          | (go_at_call 43; refine (hSK _ _ _ M _ HV.out HR.out (by omega)).mono ?_; rintro e w3 ⟨rfl, hb3⟩; rw [HK.out]; have hcell3 := (hb3.cell (p := ⟨gA, i, none⟩) (World.block_lt_of_cell? _ _ hcell)).trans hcell))
        go_roundw
        case rel =>
          have hz3 := hb3.size
          have hrow := HO.out.outer.base
          have hvn : ∀ g, v'.ownBlock = some g → g < w.heap.size + 1 ∨ w2.heap.size ≤ g := fun g hg => by
            rcases hat6 with e | e
            · exact hout g (e ▸ hg)
            · rw [e] at hg
              cases hg
              right
              rw [World.size_alloc]
              omega
          have hAlo : ∀ (j : Nat) x g, vs[j]? = some x → x.ownBlock = some g → w.heap.size + 1 ≤ g ∧ g < w2.heap.size := fun j x g hx hg => by
            have hjl := (List.getElem?_eq_some_iff.1 hx).1
            have hjL : j < LL.length := by rw [← HALL.out.len]; exact hjl
            have hin := HALL.out.inner j x LL[j] hx (List.getElem?_eq_getElem hjL)
            exact ⟨hin.base g hg, hin.lt g hg⟩
          have hOM6 : Own w6 w.heap.size w6.heap.size 3 (.slice aM M.length cM) (ints M) := by
            have h3 := ((HOM.out.below (hb3.mono hkp.1)).alloc (.cells #[.slice aM M.length cM] 25))
            refine ((h3.grown hg6 ?_).more).lower (by omega)
            cases hb : (Value.slice aM M.length cM).ownBlock with
            | none => exact .inl rfl
            | some g =>
              refine .inr fun e => ?_
              have h4 := hAlo i _ g HVK.out hb
              have h5 := hout g e.symm
              omega
          have hstep : OwnLL w6 w.heap.size w6.heap.size 25 3 v' (us ++ [.slice aM M.length cM]) ((LL.take i).filter K ++ [M]) := by
            refine (HO.out.below hb3).push (by simpa using ho6) (fun k x L hx hL => ?_) hOM6 (fun g hg e => ?_) (fun k x g hx hg => ?_)
            · have hk := (HO.out.below hb3).inner k x L hx hL
              refine ((hk.alloc (.cells #[.slice aM M.length cM] 25)).grown hg6 ?_).more
              cases hb : x.ownBlock with
              | none => exact .inl rfl
              | some g => exact .inr fun e => HO.out.apartO k x g hx hb e.symm
            · have h4 := hAlo i _ g HVK.out hg
              have h5 := hvn g e
              omega
            · obtain ⟨j, hj1, hj2⟩ := hmem x (List.mem_of_getElem? hx)
              have h4 := hAlo j x g hj2 hg
              refine ⟨fun e => by have h5 := hvn g e; omega, fun e => ?_⟩
              have := HALL.out.apart j i x _ g hj2 HVK.out hg e
              omega
          refine ⟨i + 1, us ++ [.slice aM M.length cM], by go_num, by omega, by simp; omega, ?_, hvn, fun u hu => ?_, ((hkp.below hb3).alloc _).grown hg6 (fun g hg => by have := hout g hg; omega), below_push (hbel.trans (hb3.mono hbel.size)) (Nat.le_refl _) hg6 hrow⟩
          · rw [HT.out]
            have e0 : [M].filter K = [M] := by simp [HK.out]
            rw [e0]
            exact hstep
          · rcases List.mem_append.1 hu with h | h
            · obtain ⟨j, h1, h2⟩ := hmem u h
              exact ⟨j, by omega, h2⟩
            · rw [List.mem_singleton.1 h]; exact ⟨i, by omega, HVK.out⟩
        case measure => simp [intOf] <;> omega
    · obtain rfl : i = LL.length := by omega
      obtain ⟨a5, c5, rfl⟩ := HO.out.form
      have HE : Hid ((LL.take LL.length).filter K = LL.filter K) := Lib.hid (by rw [List.take_of_length_le (Nat.le_refl _)])
      go_wp2_with fail
      go_ret
      have hq : (LL.take LL.length).filter K = (allQ n n n).filter K := by rw [HE.out, HL.out]
      have h1 := HO.out
      rw [hq] at h1
      exact ⟨a5, c5, us, by rw [← hq]; rfl, h1, hbel⟩
theorem filter_same {K K' : List Int → Bool} (h : ∀ L, K' L = K L) (l : List (List Int)) : l.filter K' = l.filter K := by
  congr 1; funext L; exact h L
theorem sKindParts_any (s : ByteArray) (n : Int) (w : World) :
    Calls Try.prog 20 #[.string s, .int .i64 n] w fun e w' => ∃ (a' : Option Addr) (c' : Nat) (us : List Value), e = .returned (.slice a' (kpF s.data.toList n).length c') ∧ OwnLL w' w.heap.size w'.heap.size 25 3 (.slice a' (kpF s.data.toList n).length c') us (kpF s.data.toList n) ∧ Below w.heap.size w w' := by
  have hb0 := (Below.refl w.heap.size w).alloc (Nat.le_refl _) (.cells #[] 3)
  cases hk : kindOf s.data.toList with
  | none =>
    have HF := Lib.hid (kpF_none hk n)
    have HK := Lib.hid hk
    clear hk
    go_enter Try.func20, Try.ntmps20
    go_wp2_with (go_at_call 43; refine (skind_none s HK.out _ _ [] _).mono ?_; rintro e w1 ⟨rfl, hb1⟩)
    go_ret
    rw [HF.out]
    have hb := hb0.trans (hb1.mono (by simp))
    exact ⟨none, 0, [], rfl, (OwnLL.nil _ _ _ _).lower hb.size, hb⟩
  | some K =>
    obtain ⟨K', hSK, hKK⟩ := sk_of hk
    have HSK := Lib.hid hSK
    have HKK := Lib.hid hKK
    have HK := Lib.hid hk
    clear hk hSK hKK
    have hv0 : valid [] = true := rfl
    have HR : Hid (Rd (w.alloc (.cells #[] 3)) (w.alloc (.cells #[] 3)).heap.size (some ⟨w.heap.size, 0, none⟩) (ints [])) := Lib.hid (fun h => absurd rfl h)
    by_cases h : 0 ≤ n ∧ n ≤ 12
    · obtain ⟨h1, h2⟩ := h
      obtain ⟨n, rfl⟩ := Int.eq_ofNat_of_zero_le h1
      have hn : n ≤ 12 := by omega
      have HF := Lib.hid (kpF_some HK.out hn)
      go_enter Try.func20, Try.ntmps20
      go_wp2_with (first
        | (go_at_call 43; refine (HSK.out _ _ _ [] _ hv0 HR.out (Nat.le_refl _)).mono ?_; rintro e w1 ⟨rfl, hb1⟩)
        | (go_at_call 31; refine (inRange_yes _ _ _ _ h1 h2).mono ?_; rintro e wv ⟨rfl, hwv⟩; obtain rfl : w1 = wv := hwv.symm)
        | (go_at_call 44; refine (kindList_ll s K' HSK.out n hn _).mono ?_; rintro e w2 ⟨a', c', us, rfl, hLL, hb2⟩; rw [filter_same HKK.out] at hLL ⊢))
      go_ret
      have hb := hb0.trans (hb1.mono (by simp))
      rw [HF.out]
      exact ⟨a', c', us, rfl, hLL.lower hb.size, hb.trans (hb2.mono hb.size)⟩
    · have HF := Lib.hid (kpF_out (l := s.data.toList) h)
      have HN : Hid (n < 0 ∨ 12 < n) := Lib.hid (by omega)
      clear h
      go_enter Try.func20, Try.ntmps20
      go_wp2_with (first
        | (go_at_call 43; refine (HSK.out _ _ _ [] _ hv0 HR.out (Nat.le_refl _)).mono ?_; rintro e w1 ⟨rfl, hb1⟩)
        | (go_at_call 31; refine (inRange_no _ _ _ _ HN.out).mono ?_; rintro e wv ⟨rfl, hwv⟩; obtain rfl : w1 = wv := hwv.symm))
      go_ret
      rw [HF.out]
      have hb := hb0.trans (hb1.mono (by simp))
      exact ⟨none, 0, [], rfl, (OwnLL.nil _ _ _ _).lower hb.size, hb⟩
end Go.Proofs.Ytifhnjnpbpgjfaa
namespace Go.Proofs.Ytifhnjnpbpgjfaa
open NP
theorem gap_tab : ((List.range 13).all fun n => decide (((allQ n n n).filter (kFall 2 2)).length = sqsT n (isq n)) && decide (((allQ n n n).filter kSelf).length = scsT n (isq n))) = true := by decide +kernel
theorem gap_cnt (n : Nat) (hn : n ≤ 12) : kcF [103, 97, 112] n = sqF n := by
  have h := List.all_eq_true.1 gap_tab n (by simp; omega)
  rw [Bool.and_eq_true] at h
  have hk : kindOf [103, 97, 112] = some (kFall 2 2) := by unfold kindOf; simp
  rw [kcF_some hk hn, kpF_some hk hn, sqF_T n (by omega), of_decide_eq_true h.1]
theorem self_cnt (n : Nat) (hn : n ≤ 12) : kcF [115, 101, 108, 102] n = scF n := by
  have h := List.all_eq_true.1 gap_tab n (by simp; omega)
  rw [Bool.and_eq_true] at h
  rw [kcF_some kindOf_self hn, kpF_some kindOf_self hn, scF_T n (by omega), of_decide_eq_true h.2]
end Go.Proofs.Ytifhnjnpbpgjfaa
namespace Go.Proofs.Ytifhnjnpbpgjfaa
open Go.RowKit NP
set_option maxRecDepth 8000
set_option linter.unusedVariables false

theorem rngYes (n lo hi : Int) (w : World) (h1 : lo ≤ n) (h2 : n ≤ hi) : Calls Try.prog 31 #[.int .i64 n, .int .i64 lo, .int .i64 hi] w fun e w' => e = .returned (.bool true) ∧ w' = w := by
  go_enter Try.func31, Try.ntmps31
  go_wp2
  go_ret
  exact ⟨rfl, rfl⟩
theorem rngNo (n lo hi : Int) (w : World) (h : n < lo ∨ hi < n) : Calls Try.prog 31 #[.int .i64 n, .int .i64 lo, .int .i64 hi] w fun e w' => e = .returned (.bool false) ∧ w' = w := by
  by_cases h1 : lo ≤ n
  · have h2 : hi < n := by omega
    clear h
    go_enter Try.func31, Try.ntmps31
    go_wp2
    go_ret
    exact ⟨ret_bool (by simp; omega), rfl⟩
  · clear h
    go_enter Try.func31, Try.ntmps31
    go_wp2
    go_ret
    exact ⟨rfl, rfl⟩
def inR (n lo hi : Int) : Bool := decide (lo ≤ n) && decide (n ≤ hi)
theorem inRange_any (n lo hi : Int) (w : World) : Calls Try.prog 31 #[.int .i64 n, .int .i64 lo, .int .i64 hi] w fun e w' => e = .returned (.bool (inR n lo hi)) ∧ w = w' := by
  by_cases h : lo ≤ n ∧ n ≤ hi
  · refine (rngYes n lo hi w h.1 h.2).mono ?_
    rintro e w' ⟨rfl, rfl⟩
    exact ⟨ret_bool (by unfold inR; rw [decide_eq_true h.1, decide_eq_true h.2]; rfl), rfl⟩
  · refine (rngNo n lo hi w (by omega)).mono ?_
    rintro e w' ⟨rfl, rfl⟩
    refine ⟨ret_bool ?_, rfl⟩
    unfold inR
    rcases Int.lt_or_le n lo with h1 | h1
    · rw [decide_eq_false (by omega : ¬ lo ≤ n)]; rfl
    · rw [decide_eq_false (by omega : ¬ n ≤ hi)]; simp

theorem countTo_any (m : Nat) : ∀ (n k : Int) (w : World), n.toNat + k.toNat = m → -1000 ≤ n → n ≤ 40 → 0 ≤ k → k ≤ 40 →
    Calls Try.prog 32 #[.int .i64 n, .int .i64 k] w fun e w' => e = .returned (.int .i64 (ctZ n k)) ∧ w = w' := by
  induction m using Nat.strongRecOn with
  | _ m ih =>
    intro n k w hm hn0 hn hk0 hk
    by_cases h0 : n = 0
    · subst h0
      have HZ := Lib.hid (ctZ_zero k)
      clear ih
      go_enter Try.func32, Try.ntmps32
      go_wp2
      go_ret
      exact ⟨ret_i64 HZ.out.symm, rfl⟩
    · have e0 : (n == 0) = false := beq_eq_false_iff_ne.2 h0
      by_cases h1 : n < 0
      · have HZ := Lib.hid (ctZ_neg n k h1)
        clear ih h0
        go_enter Try.func32, Try.ntmps32
        go_wp2
        go_ret
        exact ⟨ret_i64 HZ.out.symm, rfl⟩
      · by_cases h2 : k = 0
        · subst h2
          have HZ := Lib.hid (ctZ_none n (by omega))
          have h1' : 0 ≤ n := by omega
          clear ih h0 h1
          go_enter Try.func32, Try.ntmps32
          go_wp2
          go_ret
          exact ⟨ret_i64 HZ.out.symm, rfl⟩
        · have e2 : (k == 0) = false := beq_eq_false_iff_ne.2 h2
          have h1' : 0 ≤ n := by omega
          have h3 := ctZ_rec n k (by omega) (by omega)
          have b1 := ctZ_bd n (k - 1) hn
          have b2 := ctZ_bd (n - k) k (by omega)
          have HZ := Lib.hid h3
          have i1 := fun w => ih (n.toNat + (k - 1).toNat) (by omega) n (k - 1) w rfl (by omega) hn (by omega) (by omega)
          have i2 := fun w => ih ((n - k).toNat + k.toNat) (by omega) (n - k) k w rfl (by omega) (by omega) hk0 hk
          have hk1 : 1 ≤ k := by omega
          have hn1 : 1 ≤ n := by omega
          clear ih h0 h1 h2 h3 hm
          have I1 := Lib.hid i1
          have I2 := Lib.hid i2
          clear i1 i2
          generalize ctZ n (k - 1) = x at *
          generalize ctZ (n - k) k = y at *
          go_enter Try.func32, Try.ntmps32
          go_wp2_with fail
          refine (I1.out _).mono ?_
          rintro e w1 ⟨rfl, rfl⟩
          go_wp2_with fail
          refine (I2.out _).mono ?_
          rintro e w1 ⟨rfl, rfl⟩
          go_wp2_with fail
          go_ret
          exact ⟨ret_i64 HZ.out.symm, rfl⟩
theorem countTo_at (n k : Int) (w : World) (hn0 : -1000 ≤ n) (hn : n ≤ 40) (hk0 : 0 ≤ k) (hk : k ≤ 40) :
    Calls Try.prog 32 #[.int .i64 n, .int .i64 k] w fun e w' => e = .returned (.int .i64 (ctZ n k)) ∧ w = w' := countTo_any _ n k w rfl hn0 hn hk0 hk

theorem T_info41 : (Try.prog.info? 47).map (·.size) = some 41 := by kernel_rfl
theorem T_index41 (D : List Int) (k : Nat) (hk : k < D.length) (h16 : k < 41) (w : World) : (Instr.index 47 (.agg (arr D)) (.int .i64 k)).run Try.prog w = .ok (.int .i64 D[k]) w :=
  run_index_row 47 3 _ 41 Try.underlying47 Try.underlying3 rfl (by kernel_rfl) (arr D) k _ h16 (arr_get D k hk) .i64 w

theorem withMany_any (D : List Int) (hD : D.length = 41) (p : Nat) (hp : 1 ≤ p) (hp40 : p ≤ 40) (hb : ∀ s, s < 41 → (0 ≤ D.getD s 0 ∧ D.getD s 0 ≤ 1099511627776) ∧ 0 ≤ wv D p s ∧ wv D p s ≤ 1099511627776) (w : World) :
    Calls Try.prog 34 #[.agg (arr D), .int .i64 p] w fun e w' => e = .returned (.agg (arr (wrow D p))) ∧ Below w.heap.size w w' := by
  have HD := Lib.hid hD
  have hi41 : (Try.prog.info? 47).map (·.size) = some (arr D).size := by rw [arr_size, hD]; exact T_info41
  have HB := Lib.hid hb
  clear hD hb
  have hrange : (41 : Int) - (p : Int) = ((41 - p : Nat) : Int) := by omega
  have hb0 := (Blk.new w 47 (arr D)).alloc (.cells (arr (List.replicate 41 0)) 47)
  go_enter Try.func34, Try.ntmps34
  go_wp2
  go_loopw [8] (fun i wr => ∃ l : Nat, l ≤ 41 - p ∧ i = .int .i64 l ∧ Below w.heap.size w wr ∧ Blk wr (w.heap.size + 1) 47 (arr (List.replicate 41 0)) ∧ Blk wr w.heap.size 47 (arr (wmid D p l))) (fun i _ => 41 - (intOf i).toNat)
  case atStart =>
    refine ⟨0, Nat.zero_le _, rfl, ((Below.refl _ _).alloc (Nat.le_refl _) _).alloc (by simp) _, ?_, by rw [wmid_zero HD.out]; exact hb0⟩
    have e := Blk.new (w.alloc (.cells (arr D) 47)) 47 (arr (List.replicate 41 0))
    rw [World.size_alloc] at e
    exact e
  case round =>
    obtain ⟨l, hl, rfl, hbel, hb2, hb3⟩ := hrel
    by_cases hlt : l < 41 - p
    · have hlp : l + p < 41 := by omega
      have hl41 : l < 41 := by omega
      have b1 := (HB.out (l + p) hlp).1
      have b2 := (HB.out l hl41).2
      have hs : D.getD (l + p) 0 + wv D p l = wv D p (l + p) := by rw [wv_high D p (l + p) hp (by omega), Nat.add_sub_cancel]
      have b3 := (HB.out (l + p) hlp).2
      rw [← hs] at b3
      have HSET := Lib.hid (wmid_set D p l hp hlp)
      have hc1 : wr.cell? ⟨w.heap.size, l, none⟩ = some (.int .i64 (wv D p l)) := by rw [hb3.cell l, arr_get _ l (by rw [wmid_len]; exact hl41), wmid_lo D p l hp hl41]
      have hc2 : wr.cell? ⟨w.heap.size, l + p, none⟩ = some (.int .i64 (D.getD (l + p) 0)) := by rw [hb3.cell (l + p), arr_get _ (l + p) (by rw [wmid_len]; exact hlp), wmid_hi D p l hlp]
      have hf2 : wr.frozen? ⟨w.heap.size, l + p, none⟩ = false := hb3.free (l + p)
      have hl41' : (l : Int) < 41 := by omega
      clear hs
      obtain ⟨q, hq⟩ : ∃ q : Nat, q = l + p := ⟨_, rfl⟩
      rw [← hq] at hf2 b1 b3
      have hc2' : wr.cell? ⟨w.heap.size, q, none⟩ = some (.int .i64 (D.getD q 0)) := by rw [hq]; exact hc2
      have HSET' : Hid ((wmid D p l).set q (D.getD q 0 + wv D p l) = wmid D p (l + 1)) := Lib.hid (by rw [hq]; exact HSET.out)
      clear hc2 HSET
      have hw : IntKind.i64.wrap ((l : Int) + (p : Int)) = (q : Int) := by rw [IntWalk.i64_in _ (by omega)]; omega
      have hq41 : (q : Int) < 41 := by omega
      have hq41' : q < 41 := by omega
      clear hq
      generalize D.getD q 0 = x at *
      generalize wv D p l = y at *
      have hw2 : IntKind.i64.wrap (x + y) = x + y := IntWalk.i64_in _ (by omega)
      go_wp2
      go_still_tail 10, (by kernel_rfl)
      change wpList _ _ _ _ _ wr.drew
      have hbel' : Below w.heap.size w wr.drew := hbel.trans ((Dr.n wr 1).below _)
      have hb2' : Blk wr.drew (w.heap.size + 1) 47 (arr (List.replicate 41 0)) := hb2
      have hb3' : Blk wr.drew w.heap.size 47 (arr (wmid D p l)) := hb3
      have hf3 : wr.drew.frozen? ⟨w.heap.size, q, none⟩ = false := hf2
      have hc3 : wr.drew.cell? ⟨w.heap.size, q, none⟩ = some (.int .i64 x) := hc2'
      generalize wr.drew = w2 at *
      clear hbel hb2 hb3
      go_wp2
      go_roundw
      case rel =>
        refine ⟨l + 1, by omega, by go_num, hbel'.setCell (by show w.heap.size ≤ w.heap.size; omega) _, hb2'.off (by show w.heap.size + 1 ≠ w.heap.size; omega) _, ?_⟩
        have e := hb3'.set q (.int .i64 (x + y))
        rw [arr_set, HSET'.out] at e
        exact e
      case measure => simp [intOf]; omega
    · obtain rfl : l = 41 - p := by omega
      have HE := Lib.hid (wmid_end D p (41 - p) (by omega))
      have hi2 : (Try.prog.info? 47).map (·.size) = some (arr (wmid D p (41 - p))).size := by rw [arr_size, wmid_len]; exact T_info41
      have hsz : (arr (wmid D p (41 - p))).size = (arr (List.replicate 41 0)).size := by rw [arr_size, arr_size, wmid_len]; rfl
      go_wp2_with (first | (refine wpList_load_row rfl 47 (.tmp 2) rfl w.heap.size rfl 47 (arr (wmid D p (41 - p))) (0, 0) _ hb3 Try.underlying47 rfl hi2 ?_) | (refine wpList_store_row rfl 47 (.tmp 4) (.tmp 22) rfl (w.heap.size + 1) rfl (arr (wmid D p (41 - p))) rfl 47 _ hb2 hi2 hsz (arr_one _) ?_))
      refine bodyPost_ret (results_cell_row rfl _ _ (w.heap.size + 1) 47 (arr (wmid D p (41 - p))) (0, 0) _ rfl hb2.row Try.underlying47 rfl hi2) rfl ?_
      exact ⟨by rw [HE.out], below_setRow' hbel (by omega) _⟩

theorem crow_bd (k : Nat) : ∀ s, s < 41 → (0 ≤ (crow k).getD s 0 ∧ (crow k).getD s 0 ≤ 1099511627776) ∧ 0 ≤ wv (crow k) (k + 1) s ∧ wv (crow k) (k + 1) s ≤ 1099511627776 := fun s hs => by
  rw [crow_getD k s hs, wv_crow k s hs]
  have := ct_le s k (by omega)
  have := ct_le s (k + 1) (by omega)
  omega

theorem countsBy_any (ff : Nat) (he : ∀ (args : Array Value) (w : World), (callFunc ff args).run Try.prog w = .ok (.enter ff args) w) (R : Nat → List Int) (h0 : R 0 = 1 :: List.replicate 40 0) (hl : ∀ j, (R j).length = 41)
    (k : Nat) (hk : k ≤ 40) (hc : ∀ j : Nat, j < k → ∀ w1 : World, Calls Try.prog ff #[.agg (arr (R j)), .int .i64 ((j : Int) + 1)] w1 fun e w2 => e = .returned (.agg (arr (R (j + 1)))) ∧ Below w1.heap.size w1 w2) (w : World) :
    Calls Try.prog 75 #[.int .i64 k, .func (.func ff) #[] #[]] w fun e w' => e = .returned (.agg (arr (R k))) ∧ Below w.heap.size w w' := by
  have hi0 : (Try.prog.info? 47).map (·.size) = some (arr (1 :: List.replicate 40 0)).size := T_info41
  have hsz0 : (arr (1 :: List.replicate 40 0)).size = (arr (List.replicate 41 0)).size := rfl
  have hb1 : Blk ((w.alloc (.cells (arr (List.replicate 41 0)) 47)).alloc (.cells (arr (List.replicate 41 0)) 47)) (w.heap.size + 1) 47 (arr (List.replicate 41 0)) := by
    have e := Blk.new (w.alloc (.cells (arr (List.replicate 41 0)) 47)) 47 (arr (List.replicate 41 0))
    rw [World.size_alloc] at e
    exact e
  have HC := Lib.hid hc
  have HL := Lib.hid hl
  clear hc hl
  go_enter Try.func75, Try.ntmps75
  go_wp2_with (refine wpList_store_row rfl 47 (.tmp 5) (.tmp 7) rfl (w.heap.size + 1) rfl (arr (1 :: List.replicate 40 0)) rfl 47 _ hb1 hi0 hsz0 (arr_one _) ?_)
  go_loopw [6] (fun i wr => ∃ j : Nat, j ≤ k ∧ i = .int .i64 ((j : Int) + 1) ∧ Below w.heap.size w wr ∧ Blk wr w.heap.size 47 (arr (List.replicate 41 0)) ∧ Blk wr (w.heap.size + 1) 47 (arr (R j))) (fun i _ => 50 - (intOf i).toNat)
  case atStart =>
    refine ⟨0, Nat.zero_le _, rfl, below_setRow' (((Below.refl _ _).alloc (Nat.le_refl _) _).alloc (by simp) _) (by omega) _, ?_, ?_⟩
    · exact ((Blk.new w 47 (arr (List.replicate 41 0))).alloc _).rowOff (by omega)
    · rw [h0]; exact hb1.row
  case round =>
    obtain ⟨j, hj, rfl, hbel, hb2, hb3⟩ := hrel
    have hi2 : (Try.prog.info? 47).map (·.size) = some (arr (R j)).size := by rw [arr_size, HL.out]; exact T_info41
    by_cases hlt : j < k
    · have hlt' : (j : Int) + 1 ≤ (k : Int) := by omega
      have hi3 : (Try.prog.info? 47).map (·.size) = some (arr (R (j + 1))).size := by rw [arr_size, HL.out]; exact T_info41
      have hsz : (arr (R (j + 1))).size = (arr (R j)).size := by rw [arr_size, arr_size, HL.out, HL.out]
      have HCj := Lib.hid (HC.out j hlt)
      go_wp2_with (first
        | (refine wpList_load_row rfl 47 (.tmp 5) rfl (w.heap.size + 1) rfl 47 (arr (R j)) (0, 0) _ hb3 Try.underlying47 rfl hi2 ?_)
        | (with_reducible refine (HCj.out _).mono ?_; rintro e w1 ⟨rfl, hbw⟩; have hb3' : Blk w1 (w.heap.size + 1) 47 (arr (R j)) := hb3.below hbw hb3.lt; have hb2' : Blk w1 w.heap.size 47 (arr (List.replicate 41 0)) := hb2.below hbw hb2.lt; have hbel' : Below w.heap.size w w1 := hbel.trans (hbw.mono hbel.size))
        | (refine wpList_store_row rfl 47 (.tmp 5) (.tmp 16) rfl (w.heap.size + 1) rfl (arr (R (j + 1))) rfl 47 _ hb3' hi3 hsz (arr_one _) ?_))
      go_roundw
      case rel => exact ⟨j + 1, by omega, by go_num, below_setRow' hbel' (by omega) _, hb2'.rowOff (by omega), hb3'.row (vs := arr (R (j + 1)))⟩
      case measure => simp [intOf]; omega
    · obtain rfl : j = k := by omega
      have hlt' : (j : Int) < (j : Int) + 1 := by omega
      have hsz : (arr (R j)).size = (arr (List.replicate 41 0)).size := by rw [arr_size, arr_size, HL.out]; rfl
      go_wp2_with (first
        | (refine wpList_load_row rfl 47 (.tmp 5) rfl (w.heap.size + 1) rfl 47 (arr (R j)) (0, 0) _ hb3 Try.underlying47 rfl hi2 ?_)
        | (refine wpList_store_row rfl 47 (.tmp 4) (.tmp 17) rfl w.heap.size rfl (arr (R j)) rfl 47 _ hb2 hi2 hsz (arr_one _) ?_))
      refine bodyPost_ret (results_cell_row rfl _ _ w.heap.size 47 (arr (R j)) (0, 0) _ rfl hb2.row Try.underlying47 rfl hi2) rfl ?_
      exact ⟨rfl, below_setRow' hbel (Nat.le_refl _) _⟩

theorem countsUpTo_any (k : Nat) (hk : k ≤ 40) (w : World) :
    Calls Try.prog 53 #[.int .i64 k] w fun e w' => e = .returned (.agg (arr (crow k))) ∧ Below w.heap.size w w' := by
  have H := Lib.hid (countsBy_any 34 (enters_of Try.func34 (by kernel_rfl) rfl) crow crow_zero crow_len k hk (fun j hj w1 => by
    have h := withMany_any (crow j) (crow_len j) (j + 1) (by omega) (by omega) (crow_bd j) w1
    rw [wrow_crow] at h
    exact h))
  have hic : (Try.prog.info? 47).map (·.size) = some (arr (crow k)).size := by rw [arr_size, crow_len]; exact T_info41
  have hsz : (arr (crow k)).size = (arr (List.replicate 41 0)).size := by rw [arr_size, arr_size, crow_len]; rfl
  have hb0 := Blk.new w 47 (arr (List.replicate 41 0))
  have hbel0 : Below w.heap.size w (w.alloc (.cells (arr (List.replicate 41 0)) 47)) := (Below.refl _ _).alloc (Nat.le_refl _) _
  go_enter Try.func53, Try.ntmps53
  go_wp2_with (first
    | (go_at_call 75; refine (H.out _).mono ?_; rintro e w1 ⟨rfl, hb⟩; have hb0' := hb0.below hb hb0.lt; have hbel1 := hbel0.trans (hb.mono hbel0.size))
    | (refine wpList_store_row rfl 47 (.tmp 2) (.tmp 4) rfl w.heap.size rfl (arr (crow k)) rfl 47 _ hb0' hic hsz (arr_one _) ?_))
  refine bodyPost_ret (results_cell_row rfl _ _ w.heap.size 47 (arr (crow k)) (0, 0) _ rfl hb0'.row Try.underlying47 rfl hic) rfl ?_
  exact ⟨rfl, below_setRow' hbel1 (Nat.le_refl _) _⟩
end Go.Proofs.Ytifhnjnpbpgjfaa
