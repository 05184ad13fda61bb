/-
  Walks of the program: the hooks of a diagram.
-/
import Derived.Test.YthafbdpeignccaaW3
import Derived.Test.YthafbdpeignccaaW4
import Derived.Test.YthafbdpeignccaaLL2
import Derived.Deep.LoopGhost
import Derived.WalkMore
namespace Go.Proofs.Ythafbdpeignccaa
open Go.RowKit NP
set_option maxRecDepth 8000
set_option linter.unusedVariables false
set_option linter.unusedSimpArgs false
/-- one list of a list of lists grown in a block behind all others -/
theorem OwnLL.row {w w' : World} {lo hi : Nat} {eo e : TypeId} {g n c : Nat} {vs : List Value} {LL : List (List Int)} {k : Nat} {u : Value} {L : List Int} (h : OwnLL w lo hi eo e (.slice (some ⟨g, 0, none⟩) n c) vs LL) (hc : c = vs.length) (hm : vs.length ≤ maxLen)
    (hw : w.heap.size ≤ w'.heap.size) (h1 : Blk w' g eo (vs.set k u).toArray) (h2 : ∀ j, lo ≤ j → j < hi → j ≠ g → w'.heap[j]? = w.heap[j]?) (hu : Own w' hi w'.heap.size e u (ints L)) (hk : k < vs.length) :
    OwnLL w' lo w'.heap.size eo e (.slice (some ⟨g, 0, none⟩) n c) (vs.set k u) (LL.set k L) := by
  have hlg : lo ≤ g := h.outer.base g rfl
  have hgh : g < hi := h.outer.lt g rfl
  have hn : n = vs.length := by
    obtain ⟨g2, c2, e1, -⟩ := h.outer.at_ hk
    injection e1
  have ho := h1.own hlg (by rw [List.length_set]; exact hm)
  rw [List.length_set, ← hn] at ho
  have hcn : c = n := by rw [hc, hn]
  subst hcn
  have old : ∀ (j : Nat) x, j ≠ k → (vs.set k u)[j]? = some x → vs[j]? = some x := fun j x hj hx => by rw [List.getElem?_set_ne (Ne.symm hj)] at hx; exact hx
  have new : ∀ x, (vs.set k u)[k]? = some x → x = u := fun x hx => by rw [List.getElem?_set_self hk] at hx; injection hx with hx; exact hx.symm
  have oldb : ∀ (j : Nat) x g', vs[j]? = some x → x.ownBlock = some g' → g' < hi ∧ lo ≤ g' ∧ g' ≠ g := fun j x g' hx hg' => by
    have hj := (List.getElem?_eq_some_iff.1 hx).1
    have hjl : j < LL.length := by rw [← h.len]; exact hj
    have hi' := h.inner j x LL[j] hx (List.getElem?_eq_getElem hjl)
    exact ⟨hi'.lt g' hg', hi'.base g' hg', fun e => h.apartO j x g' hx hg' (by rw [e]; rfl)⟩
  refine ⟨ho, by rw [List.length_set, List.length_set, h.len], fun j x M hx hM => ?_, fun j x g' hx hg' => ?_, fun j i x y g' hx hy hgx hgy => ?_⟩
  · by_cases hj : j = k
    · subst hj
      rw [new x hx]
      rw [List.getElem?_set_self (by rw [← h.len]; exact hk)] at hM
      injection hM with hM
      subst hM
      exact hu.lower (by omega)
    · have hx' := old j x hj hx
      rw [List.getElem?_set_ne (Ne.symm hj)] at hM
      have hin := h.inner j x M hx' hM
      exact (hin.keep hw fun g' hg' => by
        have := oldb j x g' hx' hg'
        exact h2 g' this.2.1 this.1 this.2.2).more
  · by_cases hj : j = k
    · subst hj
      rw [new x hx] at hg'
      have := hu.base g' hg'
      intro e
      have e2 : g = g' := by simpa [Value.ownBlock] using e
      omega
    · have := oldb j x g' (old j x hj hx) hg'
      intro e
      have e2 : g = g' := by simpa [Value.ownBlock] using e
      omega
  · by_cases hj : j = k <;> by_cases hi2 : i = k
    · omega
    · subst hj
      rw [new x hx] at hgx
      have h3 := hu.base g' hgx
      have h4 := oldb i y g' (old i y hi2 hy) hgy
      omega
    · subst hi2
      rw [new y hy] at hgy
      have h3 := hu.base g' hgy
      have h4 := oldb j x g' (old j x hj hx) hgx
      omega
    · exact h.apart j i x y g' (old j x hj hx) (old i y hi2 hy) hgx hgy
/-- the hooks of the cells of one part, the first k of them -/
def hkR (P : List Int) (i k : Nat) : List Int := (List.range k).map fun (j : Nat) => P.getD i 0 - (j : Int) + (conj P).getD j 0 - (i : Int) - 1
def hkL (P : List Int) (i : Nat) : List (List Int) := (List.range i).map fun (j : Nat) => hkR P j (P.getD j 0).toNat
theorem hkR_next (P : List Int) (i k : Nat) : hkR P i (k + 1) = hkR P i k ++ [P.getD i 0 - (k : Int) + (conj P).getD k 0 - (i : Int) - 1] := by unfold hkR; rw [List.range_succ, List.map_append]; rfl
theorem hkL_next (P : List Int) (i : Nat) : hkL P (i + 1) = hkL P i ++ [hkR P i (P.getD i 0).toNat] := by unfold hkL; rw [List.range_succ, List.map_append]; rfl
theorem hkR_len (P : List Int) (i k : Nat) : (hkR P i k).length = k := by simp [hkR]
theorem hkL_len (P : List Int) (i : Nat) : (hkL P i).length = i := by simp [hkL]
theorem pad_getDH {L : List Int} (h : L.length ≤ 16) (i : Nat) : (pad L).getD i 0 = L.getD i 0 := by
  unfold pad
  by_cases hi : i < L.length
  · simp [List.getD_eq_getElem?_getD, List.getElem?_append_left hi]
  · simp only [List.getD_eq_getElem?_getD, List.getElem?_append_right (Nat.le_of_not_lt hi), List.getElem?_replicate, List.getElem?_eq_none (Nat.le_of_not_lt hi)]
    split <;> rfl
theorem cnt_padH {M : List Int} (hM : valid M = true) : cntD (pad M) = M.length := by
  have hbd := valid_bd hM
  have hlen : M.length ≤ 16 := hbd.2.2.2
  unfold cntD
  refine ff_eq (fun j hj => ?_) hlen ?_
  · have h1 := preS_of_valid hM j hj hj
    rw [List.getD_eq_getElem?_getD, List.getElem?_eq_getElem (by rw [pad_len hlen]; omega), Option.getD_some, pad_get hlen hj]
    simp; omega
  · rcases Nat.lt_or_ge M.length 16 with h | h
    · right
      rw [List.getD_eq_getElem?_getD, List.getElem?_eq_getElem (by rw [pad_len hlen]; omega), Option.getD_some, pad_get0 hlen (Nat.le_refl _) h]
      simp
    · left; omega
theorem Own.blkN {w : World} {lo hi : Nat} {e : TypeId} {g n : Nat} {vs : List Value} (h : Own w lo hi e (.slice (some ⟨g, 0, none⟩) n n) vs) (hn : vs.length = n) : Blk w g e vs.toArray := by
  rcases h.row.2 with ⟨h1, _⟩ | ⟨g', cap, cur, h1, _, hb, _, _, hs, ht⟩
  · cases h1
  · cases h1
    have e1 : cur = vs.toArray := by
      apply Array.toList_inj.1
      rw [hn, List.take_of_length_le (by simp; omega)] at ht
      simpa using ht
    rw [← e1]
    exact hb
theorem hk_set (P : List Int) (i n : Nat) (hi : i < n) : (hkL P i ++ List.replicate (n - i) []).set i (hkR P i (P.getD i 0).toNat) = hkL P (i + 1) ++ List.replicate (n - (i + 1)) [] := by
  rw [List.set_append_right _ _ (by rw [hkL_len]; omega), hkL_len, Nat.sub_self, show n - i = (n - (i + 1)) + 1 by omega, List.replicate_succ, List.set_cons_zero, hkL_next, List.append_assoc]
  rfl
theorem T_intH : (Try.prog.info? 3).map (fun i => (i.zero, i.size, i.bytes)) = some (some (.int .i64 0), 1, 8) := by kernel_rfl
theorem conj_cells2 {P : List Int} (hp : valid P = true) : acc (pad P) 16 0 = pad (conj P) := (acc_end (pad P) (pad_len (valid_bd hp).2.2.2)).trans (conj_pad hp)
set_option maxRecDepth 100000 in
set_option maxHeartbeats 4000000 in
theorem hooks_any (P : List Int) (hv : valid P = true) (w : World) :
    Calls Try.prog 78 #[.agg (arr (pad P))] w fun e w' => ∃ a' c' us, e = .returned (.slice a' P.length c') ∧ OwnLL w' w.heap.size w'.heap.size 22 3 (.slice a' P.length c') us (hkL P P.length) ∧ Below w.heap.size w w' := by
  have hl16 := (valid_bd hv).2.2.2
  have hpl := pad_len hl16
  have hi16 : (Try.prog.info? 59).map (·.size) = some (arr (pad P)).size := by rw [arr_size, hpl]; exact T_info35
  have hb := Blk.new w 59 (arr (pad P))
  have hb1 : Below w.heap.size w (w.alloc (.cells (arr (pad P)) 59)) := (Below.refl _ _).alloc (Nat.le_refl _) _
  have hz1 : (w.alloc (.cells (arr (pad P)) 59)).heap.size = w.heap.size + 1 := World.size_alloc _ _
  have h0b : ∀ k (h : k < (pad P).length), 0 ≤ (pad P)[k] ∧ (pad P)[k] ≤ 16 := by
    exact pad_nonneg hv
  have HCN := Lib.hid (cnt_padH hv)
  have hcl : (conj P).length ≤ 16 := by rw [conj_len]; have := headD_bd hv; omega
  have HCJ := Lib.hid (conj_cells2 hv)
  have HCC := Lib.hid (fun w => conjugate_any (pad P) hpl h0b w)
  rw [HCJ.out] at HCC
  have HCT := Lib.hid (fun w => count_any (pad P) hpl w)
  rw [HCN.out] at HCT
  have hszT : (arr (pad (conj P))).size = (arr (List.replicate 16 0)).size := by rw [arr_size, arr_size, pad_len hcl]; rfl
  have hiT : (Try.prog.info? 59).map (·.size) = some (arr (pad (conj P))).size := by rw [arr_size, pad_len hcl]; exact T_info35
  have HV := Lib.hid hv
  clear hv h0b
  obtain ⟨n, hn⟩ : ∃ n, P.length = n := ⟨_, rfl⟩
  have hn16 : n ≤ 16 := by omega
  rw [hn] at HCT
  have hmk := fun w => run_make_lists (P := Try.prog) 37 22 _ Try.underlying37 rfl rfl rfl rfl n (by omega) w
  have HX : Hid (∀ i, i < 16 → ∃ (h : i < (pad P).length), (pad P)[i] = P.getD i 0) := Lib.hid (fun i hi => ⟨by omega, by
    have := pad_getDH hl16 i
    rw [List.getD_eq_getElem?_getD, List.getElem?_eq_getElem (by omega)] at this
    exact this⟩)
  have HY : Hid (∀ k, k < 16 → ∃ (h : k < (pad (conj P)).length), (pad (conj P))[k] = (conj P).getD k 0) := Lib.hid (fun k hk => ⟨by rw [pad_len hcl]; omega, by
    have := pad_getDH hcl k
    rw [List.getD_eq_getElem?_getD, List.getElem?_eq_getElem (by rw [pad_len hcl]; omega)] at this
    exact this⟩)
  have HYB : Hid (∀ k, 0 ≤ (conj P).getD k 0 ∧ (conj P).getD k 0 ≤ 16) := Lib.hid (fun k => by
    have h1 := pad_nonneg (valid_conj HV.out)
    by_cases hk : k < 16
    · have h2 := HY.out k hk
      obtain ⟨h3, h4⟩ := h2
      have h5 := h1 k h3
      rw [h4] at h5
      exact h5
    · have e : (conj P).getD k 0 = 0 := by simp [List.getD_eq_getElem?_getD, List.getElem?_eq_none (show (conj P).length ≤ k by omega)]
      rw [e]; omega)
  have HNL := Lib.hid hn
  have HPB : Hid (∀ i, i < n → 1 ≤ P.getD i 0 ∧ P.getD i 0 ≤ 16) := Lib.hid (fun i hi => by
    have h1 : i < P.length := by omega
    have e : P.getD i 0 = P[i] := by simp [List.getD_eq_getElem?_getD, h1]
    rw [e]
    have h2 := HV.out
    have h3 := pad_nonneg h2 i (by rw [pad_len hl16]; omega)
    rw [pad_get hl16 h1] at h3
    have h4 := preS_of_valid h2 i h1 h1
    omega)
  clear hn
  obtain ⟨i0, hi, hz00, hz01, hz02⟩ := info_parts T_intH
  go_enter Try.func78, Try.ntmps78
  go_wp2
  go_step3
  go_wp2_with (first
    | (refine wpList_store_row rfl 59 (.tmp 3) (.tmp 10) rfl w2.heap.size rfl (arr (pad (conj P))) rfl 59 (arr (List.replicate 16 0)) (Blk.new w2 _ _) hiT hszT (arr_one _) ?_; have hT3 := (Blk.new w2 59 (arr (List.replicate 16 0))).row (vs := arr (pad (conj P))); have hb3 := (hb.alloc (.cells (arr (List.replicate 16 0)) 59)).rowOff (g' := w2.heap.size) (vs := arr (pad (conj P))) (Nat.ne_of_lt hb.lt); have hA3 : Below w.heap.size w ((w2.alloc (.cells (arr (List.replicate 16 0)) 59)).setRow w2.heap.size (arr (pad (conj P)))) := below_setRow' (hA2.alloc hA2.size _) hA2.size _)
    | (refine wpList_load_row rfl 59 (.tmp 1) rfl w.heap.size rfl 59 (arr (pad P)) (0, 0) _ hb3 Try.underlying59 rfl hi16 ?_)
    | (refine wpList_load_row rfl 59 (.tmp 1) rfl w.heap.size rfl 59 (arr (pad P)) (0, 0) _ hb Try.underlying59 rfl hi16 ?_)
    | (go_at_call 109; refine (HCT.out _).mono ?_; rintro e w4 ⟨rfl, hb4⟩; replace hb3 := hb3.below hb4 hb3.lt; have hT4 := hT3.below hb4 hT3.lt; have hA4 := hA3.trans (hb4.mono hA3.size); have hz4 := hb4.size; clear hb4)
    | (go_at_call 77; refine (HCC.out _).mono ?_; rintro e w2 ⟨rfl, hb2⟩; replace hb := hb.below hb2 hb.lt; have hz2 := hb2.size; have hA2 := hb1.trans (hb2.mono (by omega)); clear hb2))
  have hZ := OwnLL.zeros w4 n 22 3 (by unfold maxLen; omega)
  rw [List.toArray_replicate] at hZ
  obtain ⟨w5, hw5⟩ : ∃ w5, w4.alloc (.cells (Array.replicate n (Value.slice none 0 0)) 22) = w5 := ⟨_, rfl⟩
  have hb5 : Blk w5 w.heap.size 59 (arr (pad P)) := by rw [← hw5]; exact hb3.alloc _
  have hT5 : Blk w5 w2.heap.size 59 (arr (pad (conj P))) := by rw [← hw5]; exact hT4.alloc _
  have hA5 : Below w.heap.size w w5 := by rw [← hw5]; exact hA4.alloc hA4.size _
  have hz5 : w4.heap.size < w5.heap.size := by rw [← hw5, World.size_alloc]; omega
  rw [hw5] at hZ ⊢
  have hlt2 : w2.heap.size < w4.heap.size := hT4.lt
  have hzw := hA4.size
  have hZ5 := (hZ.more).lower hzw
  clear hw5 hb hb3 hT3 hT4 hA2 hA3 hA4 hZ hmk hb1
  go_step3
  go_wp2_with (refine wpList_load_row rfl 59 (.tmp 1) rfl w.heap.size rfl 59 (arr (pad P)) (0, 0) _ hb5 Try.underlying59 rfl hi16 ?_)
  go_loopg [15] 16 (fun g ii wr => ∃ (i : Nat) (vs : List Value), i + g = 16 ∧ i ≤ n ∧ ii = .int .i64 (i : Int) ∧ vs.length = n ∧ (∀ j, i ≤ j → j < n → vs[j]? = some (.slice none 0 0)) ∧ OwnLL wr w.heap.size wr.heap.size 22 3 (.slice (some ⟨w4.heap.size, 0, none⟩) n n) vs (hkL P i ++ List.replicate (n - i) []) ∧ Blk wr w2.heap.size 59 (arr (pad (conj P))) ∧ Below w.heap.size w wr)
  case atStart => exact ⟨0, List.replicate n (.slice none 0 0), rfl, Nat.zero_le _, rfl, by simp, fun j _ hj => by rw [List.getElem?_replicate, if_pos hj], by simpa [hkL] using hZ5, hT5, hA5⟩
  case round =>
    obtain ⟨i, vs, hig, hin, rfl, hvl, hvn, ho, hT, hbel⟩ := hrel
    obtain ⟨wo, rfl⟩ : ∃ wx : World, wx = wr := ⟨_, rfl⟩
    obtain ⟨go, rfl⟩ : ∃ gg : Nat, gg = gk := ⟨_, rfl⟩
    by_cases hi16' : i < 16
    · obtain ⟨hip, hxe⟩ := HX.out i hi16'
      have hcI := T_index (pad P) i hip hi16'
      rw [hxe] at hcI
      obtain ⟨x, hx⟩ : ∃ x, P.getD i 0 = x := ⟨_, rfl⟩
      rw [hx] at hcI
      have HXE := Lib.hid hx
      by_cases hin2 : i < n
      · have hxb : 1 ≤ x ∧ x ≤ 16 := by
          rw [← hx]
          exact HPB.out i hin2
        obtain ⟨xn, hxn⟩ : ∃ xn : Nat, x = (xn : Int) := ⟨x.toNat, by omega⟩
        subst hxn
        have hx0 : ((xn : Int) == 0) = false := beq_eq_false_iff_ne.2 (by omega)
        have hBG := ho.outer.blkN hvl
        have hvi := hvn i (Nat.le_refl _) hin2
        have hset : vs.set i (.slice none 0 0) = vs := by
          refine List.ext_getElem? fun j => ?_
          by_cases hj : i = j
          · subst hj; rw [List.getElem?_set_self (by omega), hvi]
          · rw [List.getElem?_set_ne hj]
        have hgo : w4.heap.size < wo.heap.size := ho.outer.lt _ rfl
        have HO := Lib.hid ho
        have HVN := Lib.hid hvn
        have hzo := hbel.size
        clear ho hvn hx
        go_wp2_with (refine wpList_load_row rfl 59 (.tmp 3) rfl w2.heap.size rfl 59 (arr (pad (conj P))) (0, 0) _ hT Try.underlying59 rfl hiT ?_)
        go_loopg [20] 16 (fun g ii wr => ∃ (k : Nat) (v : Value), k + g = 16 ∧ k ≤ xn ∧ ii = .int .i64 (k : Int) ∧ Blk wr w4.heap.size 22 (vs.set i v).toArray ∧ (∀ g', w.heap.size ≤ g' → g' < wo.heap.size → g' ≠ w4.heap.size → wr.heap[g']? = wo.heap[g']?) ∧ wo.heap.size ≤ wr.heap.size ∧ Own wr wo.heap.size wr.heap.size 3 v (ints (hkR P i k)) ∧ Below w.heap.size w wr)
        case atStart => exact ⟨0, .slice none 0 0, rfl, Nat.zero_le _, rfl, by rw [hset]; exact hBG, fun _ _ _ _ => rfl, Nat.le_refl _, own_nil2 _ _ _ _ (Nat.le_refl _), hbel⟩
        case round =>
          obtain ⟨k, v, hkg, hkx, rfl, hblk, hsame, hzr, hrow, hbr⟩ := hrel
          obtain ⟨gk2, hgk2⟩ : ∃ gk2, gk2 = gk - 1 := ⟨_, rfl⟩
          have hvi2 : (vs.set i v)[i]? = some v := by rw [List.getElem?_set_self (by omega)]
          by_cases hkx2 : k = xn
          · -- the row's end
            subst hkx2
            have hkx3 : ((k : Int) == (k : Int)) = true := beq_iff_eq.2 rfl
            have hfin : hkL P (i + 1) ++ List.replicate (n - (i + 1)) [] = (hkL P i ++ List.replicate (n - i) []).set i (hkR P i k) := by
              rw [← hk_set P i n hin2, HXE.out, Int.toNat_natCast]
            have hrl : OwnLL wr w.heap.size wr.heap.size 22 3 (.slice (some ⟨w4.heap.size, 0, none⟩) n n) (vs.set i v) ((hkL P i ++ List.replicate (n - i) []).set i (hkR P i k)) :=
              HO.out.row hvl.symm (by rw [hvl]; unfold maxLen; omega) hzr hblk hsame hrow (by omega)
            have hTr : Blk wr w2.heap.size 59 (arr (pad (conj P))) := by
              have h1 := hsame w2.heap.size (by have := hT.lt; omega) hT.lt (by omega)
              exact h1.trans hT
            have HRL := Lib.hid hrl
            have HFIN := Lib.hid hfin
            have HNX : Hid (∀ j, i + 1 ≤ j → j < n → (vs.set i v)[j]? = some (.slice none 0 0)) := Lib.hid (fun j h1 h2 => by rw [List.getElem?_set_ne (by omega)]; exact HVN.out j (by omega) h2)
            clear hrl hfin
            by_cases hk16 : k < 16
            · obtain ⟨hkp, hye⟩ := HY.out k hk16
              have hcK := T_index (pad (conj P)) k hkp hk16
              clear hblk hsame hrow
              go_wp2
              go_roundg (go - 1)
              case measure => omega
              case rel => exact ⟨i + 1, vs.set i v, by omega, by omega, by go_num, by rw [List.length_set]; exact hvl, HNX.out, by rw [HFIN.out]; exact HRL.out, hTr, hbr⟩
            · clear hblk hsame hrow
              go_wp2
              go_roundg (go - 1)
              case measure => omega
              case rel => exact ⟨i + 1, vs.set i v, by omega, by omega, by go_num, by rw [List.length_set]; exact hvl, HNX.out, by rw [HFIN.out]; exact HRL.out, hTr, hbr⟩
          · have hkl : k < xn := by omega
            have hk16 : k < 16 := by omega
            obtain ⟨hkp, hye⟩ := HY.out k hk16
            have hcK := T_index (pad (conj P)) k hkp hk16
            rw [hye] at hcK
            have hyb := HYB.out k
            obtain ⟨y, hy⟩ : ∃ y, (conj P).getD k 0 = y := ⟨_, rfl⟩
            rw [hy] at hcK hyb
            have HNXT : Hid (hkR P i (k + 1) = hkR P i k ++ [(xn : Int) - (k : Int) + y - (i : Int) - 1]) := Lib.hid (by rw [hkR_next, HXE.out, hy])
            have hkx3 : ((k : Int) == (xn : Int)) = false := beq_eq_false_iff_ne.2 (by omega)
            have hcell : wr.cell? ⟨w4.heap.size, i, none⟩ = some v := by rw [hblk.cell i, List.getElem?_toArray]; exact hvi2
            obtain ⟨av, cv, hvf⟩ := hrow.form
            rw [List.length_map, hkR_len] at hvf
            subst hvf
            have hlr := hkR_len P i k
            obtain ⟨row, hrw⟩ : ∃ row, hkR P i k = row := ⟨_, rfl⟩
            rw [hrw] at hrow hlr HNXT
            obtain ⟨vr, hvr⟩ : ∃ vr, vr = ints row := ⟨_, rfl⟩
            have hvrl : vr.length ≤ 16 := by rw [hvr, List.length_map, hlr]; omega
            rw [← hvr] at hrow
            have HRW := Lib.hid hrow
            have HVR := Lib.hid hvr
            have HBK := Lib.hid hblk
            have HSM := Lib.hid hsame
            clear hblk hsame hrow hy hrw hlr hvr hvi2
            have hbz := hbr.size
            go_wp2_with (at_builtin; refine wpList_append_o _ rfl (.tmp 36) (.tmp 45) 22 rfl wo.heap.size wr.heap.size 3 i0 (.int .i64 0) 8 Try.underlying22 hi hz00 hz01 hz02 rfl _ vr rfl (HRW.out.alloc _) (wr.heap.size + 1) (some ⟨wr.heap.size, 0, none⟩) 1 1 [.int .i64 ((xn : Int) - (k : Int) + y - (i : Int) - 1)] rfl (Rd.one _ _ _) rfl (by simp; rfl) (by unfold maxLen; omega) (by omega) (by rw [World.size_alloc]; omega) ?_; intro v' w6 ho6 hg6 hat6; have hne6 : some w4.heap.size ≠ (Value.slice av k cv).ownBlock := (fun e => by have := HRW.out.base _ e.symm; omega); have hbk6 := (HBK.out.alloc _).grown hg6 hne6; have hc6 : w6.cell? ⟨w4.heap.size, i, none⟩ = some (.slice av k cv) := (by rw [hbk6.cell i, List.getElem?_toArray, List.getElem?_set_self (by omega)]); have hf6 := hbk6.free i; obtain ⟨a9, c9, hv9⟩ := ho6.form; rw [List.length_append] at hv9; subst hv9)
            go_roundg gk2
            case measure => omega
            case rel =>
              refine ⟨k + 1, .slice a9 (vr.length + [Value.int .i64 ((xn : Int) - (k : Int) + y - (i : Int) - 1)].length) c9, by omega, by omega, by go_num, ?_, ?_, ?_, ?_, ?_⟩
              · have h1 := hbk6.set i (.slice a9 (vr.length + [Value.int .i64 ((xn : Int) - (k : Int) + y - (i : Int) - 1)].length) c9)
                rw [List.setIfInBounds_toArray, List.set_set] at h1
                exact h1
              · intro g' h1 h2 h3
                refine (Below.heap_setCell w6 ⟨w4.heap.size, i, none⟩ _ g' h3).trans ?_
                refine (hg6.block g' (by rw [World.size_alloc]; omega) (fun e => by have := HRW.out.base g' e.symm; omega)).trans ?_
                exact (Below.heap_alloc wr _ g' (by omega)).trans (HSM.out g' h1 h2 h3)
              · have h1 := hg6.size
                rw [World.size_alloc] at h1
                simp [World.setCell]; omega
              · rw [HNXT.out]
                have h1 := ho6.off (p := ⟨w4.heap.size, i, none⟩) (fun g' e => by have := ho6.base g' e; show g' ≠ w4.heap.size; omega) (.slice a9 (vr.length + [Value.int .i64 ((xn : Int) - (k : Int) + y - (i : Int) - 1)].length) c9)
                show Own _ _ _ _ _ (List.map (Value.int .i64) (row ++ [_]))
                rw [List.map_append, show List.map (Value.int .i64) row = vr from HVR.out.symm]
                exact h1.more
              · exact (((hbr.alloc hbz _).grown hg6 (by rw [World.size_alloc]; omega) (fun g' e => by have := HRW.out.base g' e; omega))).setCell (p := ⟨w4.heap.size, i, none⟩) hzw _
      · obtain rfl : i = n := by omega
        have hx0 : x = 0 := by
          rw [← hx]
          have h1 : P.length ≤ i := by rw [HNL.out]; exact Nat.le_refl _
          simp [List.getD_eq_getElem?_getD, List.getElem?_eq_none h1]
        subst hx0
        obtain ⟨hkp0, -⟩ := HY.out 0 (by omega)
        have hk0 : ∀ wx, (Instr.index 59 (.agg (arr (pad (conj P)))) (.int .i64 0)).run Try.prog wx = .ok (.int .i64 (pad (conj P))[0]) wx := fun wx => T_index (pad (conj P)) 0 hkp0 (by omega) wx
        have HO := Lib.hid ho
        clear ho hx
        go_wp2_with (refine wpList_load_row rfl 59 (.tmp 3) rfl w2.heap.size rfl 59 (arr (pad (conj P))) (0, 0) _ hT Try.underlying59 rfl hiT ?_)
        go_loopg [20] 16 (fun g ii wr => g = 16 ∧ ii = .int .i64 (0 : Int) ∧ wr = wo)
        case atStart => exact ⟨rfl, rfl, rfl⟩
        case round =>
          obtain ⟨-, rfl, rfl⟩ := hrel
          go_wp2
          rw [Exit.noGoto_ret]
          go_ret
          have hL0 : hkL P i ++ List.replicate (i - i) [] = hkL P P.length := by rw [Nat.sub_self, List.replicate_zero, List.append_nil, HNL.out]
          have h1 := HO.out
          rw [hL0] at h1
          rw [HNL.out] at h1 ⊢
          exact ⟨_, i, vs, rfl, h1, hbel⟩
    · obtain rfl : i = 16 := by omega
      obtain rfl : n = 16 := by omega
      have HO := Lib.hid ho
      clear ho
      go_wp2
      rw [Exit.noGoto_ret]
      go_ret
      have hL0 : hkL P 16 ++ List.replicate (16 - 16) [] = hkL P P.length := by rw [Nat.sub_self, List.replicate_zero, List.append_nil, HNL.out]
      have h1 := HO.out
      rw [hL0] at h1
      rw [HNL.out] at h1 ⊢
      exact ⟨_, 16, vs, rfl, h1, hbel⟩
end Go.Proofs.Ythafbdpeignccaa
