/-
  Walks of the program: the hooks of a diagram. Walks: the hooks of parts. Walks of the model: the parts right above some; sizes of both answers. Draws of what is right above and below.
-/
import Derived.Test.YtmnlmahjgmhdiaaZcov1
import Derived.Test.YtmnlmahjgmhdiaaZcov2
import Derived.Test.YtmnlmahjgmhdiaaZcov3
import Derived.Test.YtmnlmahjgmhdiaaZcov4
import Derived.Test.YtmnlmahjgmhdiaaZcov5
import Derived.Test.YtmnlmahjgmhdiaaZcov6
import Derived.Test.YtmnlmahjgmhdiaaZcov7
import Derived.Test.YtmnlmahjgmhdiaaZcov8
import Derived.Deep.LoopGhost
import Derived.WalkMore
import Derived.Deep.RegionHeld3
namespace Go.Proofs.Ytmnlmahjgmhdiaa
open Go.RowKit NP
set_option maxRecDepth 8000
set_option linter.unusedVariables false
set_option linter.unusedSimpArgs false
/-- one list of a list of lists grown in a block behind all others -/
theorem OwnLL.row {w w' : World} {lo hi : Nat} {eo e : TypeId} {g n c : Nat} {vs : List Value} {LL : List (List Int)} {k : Nat} {u : Value} {L : List Int} (h : OwnLL w lo hi eo e (.slice (some ⟨g, 0, none⟩) n c) vs LL) (hc : c = vs.length) (hm : vs.length ≤ maxLen)
    (hw : w.heap.size ≤ w'.heap.size) (h1 : Blk w' g eo (vs.set k u).toArray) (h2 : ∀ j, lo ≤ j → j < hi → j ≠ g → w'.heap[j]? = w.heap[j]?) (hu : Own w' hi w'.heap.size e u (ints L)) (hk : k < vs.length) :
    OwnLL w' lo w'.heap.size eo e (.slice (some ⟨g, 0, none⟩) n c) (vs.set k u) (LL.set k L) := by
  have hlg : lo ≤ g := h.outer.base g rfl
  have hgh : g < hi := h.outer.lt g rfl
  have hn : n = vs.length := by
    obtain ⟨g2, c2, e1, -⟩ := h.outer.at_ hk
    injection e1
  have ho := h1.own hlg (by rw [List.length_set]; exact hm)
  rw [List.length_set, ← hn] at ho
  have hcn : c = n := by rw [hc, hn]
  subst hcn
  have old : ∀ (j : Nat) x, j ≠ k → (vs.set k u)[j]? = some x → vs[j]? = some x := fun j x hj hx => by rw [List.getElem?_set_ne (Ne.symm hj)] at hx; exact hx
  have new : ∀ x, (vs.set k u)[k]? = some x → x = u := fun x hx => by rw [List.getElem?_set_self hk] at hx; injection hx with hx; exact hx.symm
  have oldb : ∀ (j : Nat) x g', vs[j]? = some x → x.ownBlock = some g' → g' < hi ∧ lo ≤ g' ∧ g' ≠ g := fun j x g' hx hg' => by
    have hj := (List.getElem?_eq_some_iff.1 hx).1
    have hjl : j < LL.length := by rw [← h.len]; exact hj
    have hi' := h.inner j x LL[j] hx (List.getElem?_eq_getElem hjl)
    exact ⟨hi'.lt g' hg', hi'.base g' hg', fun e => h.apartO j x g' hx hg' (by rw [e]; rfl)⟩
  refine ⟨ho, by rw [List.length_set, List.length_set, h.len], fun j x M hx hM => ?_, fun j x g' hx hg' => ?_, fun j i x y g' hx hy hgx hgy => ?_⟩
  · by_cases hj : j = k
    · subst hj
      rw [new x hx]
      rw [List.getElem?_set_self (by rw [← h.len]; exact hk)] at hM
      injection hM with hM
      subst hM
      exact hu.lower (by omega)
    · have hx' := old j x hj hx
      rw [List.getElem?_set_ne (Ne.symm hj)] at hM
      have hin := h.inner j x M hx' hM
      exact (hin.keep hw fun g' hg' => by
        have := oldb j x g' hx' hg'
        exact h2 g' this.2.1 this.1 this.2.2).more
  · by_cases hj : j = k
    · subst hj
      rw [new x hx] at hg'
      have := hu.base g' hg'
      intro e
      have e2 : g = g' := by simpa [Value.ownBlock] using e
      omega
    · have := oldb j x g' (old j x hj hx) hg'
      intro e
      have e2 : g = g' := by simpa [Value.ownBlock] using e
      omega
  · by_cases hj : j = k <;> by_cases hi2 : i = k
    · omega
    · subst hj
      rw [new x hx] at hgx
      have h3 := hu.base g' hgx
      have h4 := oldb i y g' (old i y hi2 hy) hgy
      omega
    · subst hi2
      rw [new y hy] at hgy
      have h3 := hu.base g' hgy
      have h4 := oldb j x g' (old j x hj hx) hgx
      omega
    · exact h.apart j i x y g' (old j x hj hx) (old i y hi2 hy) hgx hgy
/-- the hooks of the cells of one part, the first k of them -/
def hkR (P : List Int) (i k : Nat) : List Int := (List.range k).map fun (j : Nat) => P.getD i 0 - (j : Int) + (conj P).getD j 0 - (i : Int) - 1
def hkL (P : List Int) (i : Nat) : List (List Int) := (List.range i).map fun (j : Nat) => hkR P j (P.getD j 0).toNat
theorem hkR_next (P : List Int) (i k : Nat) : hkR P i (k + 1) = hkR P i k ++ [P.getD i 0 - (k : Int) + (conj P).getD k 0 - (i : Int) - 1] := by unfold hkR; rw [List.range_succ, List.map_append]; rfl
theorem hkL_next (P : List Int) (i : Nat) : hkL P (i + 1) = hkL P i ++ [hkR P i (P.getD i 0).toNat] := by unfold hkL; rw [List.range_succ, List.map_append]; rfl
theorem hkR_len (P : List Int) (i k : Nat) : (hkR P i k).length = k := by simp [hkR]
theorem hkL_len (P : List Int) (i : Nat) : (hkL P i).length = i := by simp [hkL]
theorem pad_getDH {L : List Int} (h : L.length ≤ 16) (i : Nat) : (pad L).getD i 0 = L.getD i 0 := by
  unfold pad
  by_cases hi : i < L.length
  · simp [List.getD_eq_getElem?_getD, List.getElem?_append_left hi]
  · simp only [List.getD_eq_getElem?_getD, List.getElem?_append_right (Nat.le_of_not_lt hi), List.getElem?_replicate, List.getElem?_eq_none (Nat.le_of_not_lt hi)]
    split <;> rfl
theorem cnt_padH {M : List Int} (hM : valid M = true) : cntD (pad M) = M.length := by
  have hbd := valid_bd hM
  have hlen : M.length ≤ 16 := hbd.2.2.2
  unfold cntD
  refine ff_eq (fun j hj => ?_) hlen ?_
  · have h1 := preS_of_valid hM j hj hj
    rw [List.getD_eq_getElem?_getD, List.getElem?_eq_getElem (by rw [pad_len hlen]; omega), Option.getD_some, pad_get hlen hj]
    simp; omega
  · rcases Nat.lt_or_ge M.length 16 with h | h
    · right
      rw [List.getD_eq_getElem?_getD, List.getElem?_eq_getElem (by rw [pad_len hlen]; omega), Option.getD_some, pad_get0 hlen (Nat.le_refl _) h]
      simp
    · left; omega
theorem Own.blkN {w : World} {lo hi : Nat} {e : TypeId} {g n : Nat} {vs : List Value} (h : Own w lo hi e (.slice (some ⟨g, 0, none⟩) n n) vs) (hn : vs.length = n) : Blk w g e vs.toArray := by
  rcases h.row.2 with ⟨h1, _⟩ | ⟨g', cap, cur, h1, _, hb, _, _, hs, ht⟩
  · cases h1
  · cases h1
    have e1 : cur = vs.toArray := by
      apply Array.toList_inj.1
      rw [hn, List.take_of_length_le (by simp; omega)] at ht
      simpa using ht
    rw [← e1]
    exact hb
theorem hk_set (P : List Int) (i n : Nat) (hi : i < n) : (hkL P i ++ List.replicate (n - i) []).set i (hkR P i (P.getD i 0).toNat) = hkL P (i + 1) ++ List.replicate (n - (i + 1)) [] := by
  rw [List.set_append_right _ _ (by rw [hkL_len]; omega), hkL_len, Nat.sub_self, show n - i = (n - (i + 1)) + 1 by omega, List.replicate_succ, List.set_cons_zero, hkL_next, List.append_assoc]
  rfl
theorem T_intH : (Try.prog.info? 3).map (fun i => (i.zero, i.size, i.bytes)) = some (some (.int .i64 0), 1, 8) := by kernel_rfl
theorem conj_cells2 {P : List Int} (hp : valid P = true) : acc (pad P) 16 0 = pad (conj P) := (acc_end (pad P) (pad_len (valid_bd hp).2.2.2)).trans (conj_pad hp)
set_option maxRecDepth 100000 in
set_option maxHeartbeats 4000000 in
theorem hooks_any (P : List Int) (hv : valid P = true) (w : World) :
    Calls Try.prog 44 #[.agg (arr (pad P))] w fun e w' => ∃ a' c' us, e = .returned (.slice a' P.length c') ∧ OwnLL w' w.heap.size w'.heap.size 22 3 (.slice a' P.length c') us (hkL P P.length) ∧ Below w.heap.size w w' := by
  have hl16 := (valid_bd hv).2.2.2
  have hpl := pad_len hl16
  have hi16 : (Try.prog.info? 41).map (·.size) = some (arr (pad P)).size := by rw [arr_size, hpl]; exact T_info35
  have hb := Blk.new w 41 (arr (pad P))
  have hb1 : Below w.heap.size w (w.alloc (.cells (arr (pad P)) 41)) := (Below.refl _ _).alloc (Nat.le_refl _) _
  have hz1 : (w.alloc (.cells (arr (pad P)) 41)).heap.size = w.heap.size + 1 := World.size_alloc _ _
  have h0b : ∀ k (h : k < (pad P).length), 0 ≤ (pad P)[k] ∧ (pad P)[k] ≤ 16 := by
    exact pad_nonneg hv
  have HCN := Lib.hid (cnt_padH hv)
  have hcl : (conj P).length ≤ 16 := by rw [conj_len]; have := headD_bd hv; omega
  have HCJ := Lib.hid (conj_cells2 hv)
  have HCC := Lib.hid (fun w => conjugate_any (pad P) hpl h0b w)
  rw [HCJ.out] at HCC
  have HCT := Lib.hid (fun w => count_any (pad P) hpl w)
  rw [HCN.out] at HCT
  have hszT : (arr (pad (conj P))).size = (arr (List.replicate 16 0)).size := by rw [arr_size, arr_size, pad_len hcl]; rfl
  have hiT : (Try.prog.info? 41).map (·.size) = some (arr (pad (conj P))).size := by rw [arr_size, pad_len hcl]; exact T_info35
  have HV := Lib.hid hv
  clear hv h0b
  obtain ⟨n, hn⟩ : ∃ n, P.length = n := ⟨_, rfl⟩
  have hn16 : n ≤ 16 := by omega
  rw [hn] at HCT
  have hmk := fun w => run_make_lists (P := Try.prog) 23 22 _ Try.underlying23 rfl rfl rfl rfl n (by omega) w
  have HX : Hid (∀ i, i < 16 → ∃ (h : i < (pad P).length), (pad P)[i] = P.getD i 0) := Lib.hid (fun i hi => ⟨by omega, by
    have := pad_getDH hl16 i
    rw [List.getD_eq_getElem?_getD, List.getElem?_eq_getElem (by omega)] at this
    exact this⟩)
  have HY : Hid (∀ k, k < 16 → ∃ (h : k < (pad (conj P)).length), (pad (conj P))[k] = (conj P).getD k 0) := Lib.hid (fun k hk => ⟨by rw [pad_len hcl]; omega, by
    have := pad_getDH hcl k
    rw [List.getD_eq_getElem?_getD, List.getElem?_eq_getElem (by rw [pad_len hcl]; omega)] at this
    exact this⟩)
  have HYB : Hid (∀ k, 0 ≤ (conj P).getD k 0 ∧ (conj P).getD k 0 ≤ 16) := Lib.hid (fun k => by
    have h1 := pad_nonneg (valid_conj HV.out)
    by_cases hk : k < 16
    · have h2 := HY.out k hk
      obtain ⟨h3, h4⟩ := h2
      have h5 := h1 k h3
      rw [h4] at h5
      exact h5
    · have e : (conj P).getD k 0 = 0 := by simp [List.getD_eq_getElem?_getD, List.getElem?_eq_none (show (conj P).length ≤ k by omega)]
      rw [e]; omega)
  have HNL := Lib.hid hn
  have HPB : Hid (∀ i, i < n → 1 ≤ P.getD i 0 ∧ P.getD i 0 ≤ 16) := Lib.hid (fun i hi => by
    have h1 : i < P.length := by omega
    have e : P.getD i 0 = P[i] := by simp [List.getD_eq_getElem?_getD, h1]
    rw [e]
    have h2 := HV.out
    have h3 := pad_nonneg h2 i (by rw [pad_len hl16]; omega)
    rw [pad_get hl16 h1] at h3
    have h4 := preS_of_valid h2 i h1 h1
    omega)
  clear hn
  obtain ⟨i0, hi, hz00, hz01, hz02⟩ := info_parts T_intH
  go_enter Try.func44, Try.ntmps44
  go_wp2
  go_step3
  go_wp2_with (first
    | (refine wpList_store_row rfl 41 (.tmp 3) (.tmp 10) rfl w2.heap.size rfl (arr (pad (conj P))) rfl 41 (arr (List.replicate 16 0)) (Blk.new w2 _ _) hiT hszT (arr_one _) ?_; have hT3 := (Blk.new w2 41 (arr (List.replicate 16 0))).row (vs := arr (pad (conj P))); have hb3 := (hb.alloc (.cells (arr (List.replicate 16 0)) 41)).rowOff (g' := w2.heap.size) (vs := arr (pad (conj P))) (Nat.ne_of_lt hb.lt); have hA3 : Below w.heap.size w ((w2.alloc (.cells (arr (List.replicate 16 0)) 41)).setRow w2.heap.size (arr (pad (conj P)))) := below_setRow' (hA2.alloc hA2.size _) hA2.size _)
    | (refine wpList_load_row rfl 41 (.tmp 1) rfl w.heap.size rfl 41 (arr (pad P)) (0, 0) _ hb3 Try.underlying41 rfl hi16 ?_)
    | (refine wpList_load_row rfl 41 (.tmp 1) rfl w.heap.size rfl 41 (arr (pad P)) (0, 0) _ hb Try.underlying41 rfl hi16 ?_)
    | (go_at_call 68; refine (HCT.out _).mono ?_; rintro e w4 ⟨rfl, hb4⟩; replace hb3 := hb3.below hb4 hb3.lt; have hT4 := hT3.below hb4 hT3.lt; have hA4 := hA3.trans (hb4.mono hA3.size); have hz4 := hb4.size; clear hb4)
    | (go_at_call 58; refine (HCC.out _).mono ?_; rintro e w2 ⟨rfl, hb2⟩; replace hb := hb.below hb2 hb.lt; have hz2 := hb2.size; have hA2 := hb1.trans (hb2.mono (by omega)); clear hb2))
  have hZ := OwnLL.zeros w4 n 22 3 (by unfold maxLen; omega)
  rw [List.toArray_replicate] at hZ
  obtain ⟨w5, hw5⟩ : ∃ w5, w4.alloc (.cells (Array.replicate n (Value.slice none 0 0)) 22) = w5 := ⟨_, rfl⟩
  have hb5 : Blk w5 w.heap.size 41 (arr (pad P)) := by rw [← hw5]; exact hb3.alloc _
  have hT5 : Blk w5 w2.heap.size 41 (arr (pad (conj P))) := by rw [← hw5]; exact hT4.alloc _
  have hA5 : Below w.heap.size w w5 := by rw [← hw5]; exact hA4.alloc hA4.size _
  have hz5 : w4.heap.size < w5.heap.size := by rw [← hw5, World.size_alloc]; omega
  rw [hw5] at hZ ⊢
  have hlt2 : w2.heap.size < w4.heap.size := hT4.lt
  have hzw := hA4.size
  have hZ5 := (hZ.more).lower hzw
  clear hw5 hb hb3 hT3 hT4 hA2 hA3 hA4 hZ hmk hb1
  go_step3
  go_wp2_with (refine wpList_load_row rfl 41 (.tmp 1) rfl w.heap.size rfl 41 (arr (pad P)) (0, 0) _ hb5 Try.underlying41 rfl hi16 ?_)
  go_loopg [15] 16 (fun g ii wr => ∃ (i : Nat) (vs : List Value), i + g = 16 ∧ i ≤ n ∧ ii = .int .i64 (i : Int) ∧ vs.length = n ∧ (∀ j, i ≤ j → j < n → vs[j]? = some (.slice none 0 0)) ∧ OwnLL wr w.heap.size wr.heap.size 22 3 (.slice (some ⟨w4.heap.size, 0, none⟩) n n) vs (hkL P i ++ List.replicate (n - i) []) ∧ Blk wr w2.heap.size 41 (arr (pad (conj P))) ∧ Below w.heap.size w wr)
  case atStart => exact ⟨0, List.replicate n (.slice none 0 0), rfl, Nat.zero_le _, rfl, by simp, fun j _ hj => by rw [List.getElem?_replicate, if_pos hj], by simpa [hkL] using hZ5, hT5, hA5⟩
  case round =>
    obtain ⟨i, vs, hig, hin, rfl, hvl, hvn, ho, hT, hbel⟩ := hrel
    obtain ⟨wo, rfl⟩ : ∃ wx : World, wx = wr := ⟨_, rfl⟩
    obtain ⟨go, rfl⟩ : ∃ gg : Nat, gg = gk := ⟨_, rfl⟩
    by_cases hi16' : i < 16
    · obtain ⟨hip, hxe⟩ := HX.out i hi16'
      have hcI := T_index (pad P) i hip hi16'
      rw [hxe] at hcI
      obtain ⟨x, hx⟩ : ∃ x, P.getD i 0 = x := ⟨_, rfl⟩
      rw [hx] at hcI
      have HXE := Lib.hid hx
      by_cases hin2 : i < n
      · have hxb : 1 ≤ x ∧ x ≤ 16 := by
          rw [← hx]
          exact HPB.out i hin2
        obtain ⟨xn, hxn⟩ : ∃ xn : Nat, x = (xn : Int) := ⟨x.toNat, by omega⟩
        subst hxn
        have hx0 : ((xn : Int) == 0) = false := beq_eq_false_iff_ne.2 (by omega)
        have hBG := ho.outer.blkN hvl
        have hvi := hvn i (Nat.le_refl _) hin2
        have hset : vs.set i (.slice none 0 0) = vs := by
          refine List.ext_getElem? fun j => ?_
          by_cases hj : i = j
          · subst hj; rw [List.getElem?_set_self (by omega), hvi]
          · rw [List.getElem?_set_ne hj]
        have hgo : w4.heap.size < wo.heap.size := ho.outer.lt _ rfl
        have HO := Lib.hid ho
        have HVN := Lib.hid hvn
        have hzo := hbel.size
        clear ho hvn hx
        go_wp2_with (refine wpList_load_row rfl 41 (.tmp 3) rfl w2.heap.size rfl 41 (arr (pad (conj P))) (0, 0) _ hT Try.underlying41 rfl hiT ?_)
        go_loopg [20] 16 (fun g ii wr => ∃ (k : Nat) (v : Value), k + g = 16 ∧ k ≤ xn ∧ ii = .int .i64 (k : Int) ∧ Blk wr w4.heap.size 22 (vs.set i v).toArray ∧ (∀ g', w.heap.size ≤ g' → g' < wo.heap.size → g' ≠ w4.heap.size → wr.heap[g']? = wo.heap[g']?) ∧ wo.heap.size ≤ wr.heap.size ∧ Own wr wo.heap.size wr.heap.size 3 v (ints (hkR P i k)) ∧ Below w.heap.size w wr)
        case atStart => exact ⟨0, .slice none 0 0, rfl, Nat.zero_le _, rfl, by rw [hset]; exact hBG, fun _ _ _ _ => rfl, Nat.le_refl _, own_nil2 _ _ _ _ (Nat.le_refl _), hbel⟩
        case round =>
          obtain ⟨k, v, hkg, hkx, rfl, hblk, hsame, hzr, hrow, hbr⟩ := hrel
          obtain ⟨gk2, hgk2⟩ : ∃ gk2, gk2 = gk - 1 := ⟨_, rfl⟩
          have hvi2 : (vs.set i v)[i]? = some v := by rw [List.getElem?_set_self (by omega)]
          by_cases hkx2 : k = xn
          · -- the row's end
            subst hkx2
            have hkx3 : ((k : Int) == (k : Int)) = true := beq_iff_eq.2 rfl
            have hfin : hkL P (i + 1) ++ List.replicate (n - (i + 1)) [] = (hkL P i ++ List.replicate (n - i) []).set i (hkR P i k) := by
              rw [← hk_set P i n hin2, HXE.out, Int.toNat_natCast]
            have hrl : OwnLL wr w.heap.size wr.heap.size 22 3 (.slice (some ⟨w4.heap.size, 0, none⟩) n n) (vs.set i v) ((hkL P i ++ List.replicate (n - i) []).set i (hkR P i k)) :=
              HO.out.row hvl.symm (by rw [hvl]; unfold maxLen; omega) hzr hblk hsame hrow (by omega)
            have hTr : Blk wr w2.heap.size 41 (arr (pad (conj P))) := by
              have h1 := hsame w2.heap.size (by have := hT.lt; omega) hT.lt (by omega)
              exact h1.trans hT
            have HRL := Lib.hid hrl
            have HFIN := Lib.hid hfin
            have HNX : Hid (∀ j, i + 1 ≤ j → j < n → (vs.set i v)[j]? = some (.slice none 0 0)) := Lib.hid (fun j h1 h2 => by rw [List.getElem?_set_ne (by omega)]; exact HVN.out j (by omega) h2)
            clear hrl hfin
            by_cases hk16 : k < 16
            · obtain ⟨hkp, hye⟩ := HY.out k hk16
              have hcK := T_index (pad (conj P)) k hkp hk16
              clear hblk hsame hrow
              go_wp2
              go_roundg (go - 1)
              case measure => omega
              case rel => exact ⟨i + 1, vs.set i v, by omega, by omega, by go_num, by rw [List.length_set]; exact hvl, HNX.out, by rw [HFIN.out]; exact HRL.out, hTr, hbr⟩
            · clear hblk hsame hrow
              go_wp2
              go_roundg (go - 1)
              case measure => omega
              case rel => exact ⟨i + 1, vs.set i v, by omega, by omega, by go_num, by rw [List.length_set]; exact hvl, HNX.out, by rw [HFIN.out]; exact HRL.out, hTr, hbr⟩
          · have hkl : k < xn := by omega
            have hk16 : k < 16 := by omega
            obtain ⟨hkp, hye⟩ := HY.out k hk16
            have hcK := T_index (pad (conj P)) k hkp hk16
            rw [hye] at hcK
            have hyb := HYB.out k
            obtain ⟨y, hy⟩ : ∃ y, (conj P).getD k 0 = y := ⟨_, rfl⟩
            rw [hy] at hcK hyb
            have HNXT : Hid (hkR P i (k + 1) = hkR P i k ++ [(xn : Int) - (k : Int) + y - (i : Int) - 1]) := Lib.hid (by rw [hkR_next, HXE.out, hy])
            have hkx3 : ((k : Int) == (xn : Int)) = false := beq_eq_false_iff_ne.2 (by omega)
            have hcell : wr.cell? ⟨w4.heap.size, i, none⟩ = some v := by rw [hblk.cell i, List.getElem?_toArray]; exact hvi2
            obtain ⟨av, cv, hvf⟩ := hrow.form
            rw [List.length_map, hkR_len] at hvf
            subst hvf
            have hlr := hkR_len P i k
            obtain ⟨row, hrw⟩ : ∃ row, hkR P i k = row := ⟨_, rfl⟩
            rw [hrw] at hrow hlr HNXT
            obtain ⟨vr, hvr⟩ : ∃ vr, vr = ints row := ⟨_, rfl⟩
            have hvrl : vr.length ≤ 16 := by rw [hvr, List.length_map, hlr]; omega
            rw [← hvr] at hrow
            have HRW := Lib.hid hrow
            have HVR := Lib.hid hvr
            have HBK := Lib.hid hblk
            have HSM := Lib.hid hsame
            clear hblk hsame hrow hy hrw hlr hvr hvi2
            have hbz := hbr.size
            go_wp2_with (at_builtin; refine wpList_append_o _ rfl (.tmp 36) (.tmp 45) 22 rfl wo.heap.size wr.heap.size 3 i0 (.int .i64 0) 8 Try.underlying22 hi hz00 hz01 hz02 rfl _ vr rfl (HRW.out.alloc _) (wr.heap.size + 1) (some ⟨wr.heap.size, 0, none⟩) 1 1 [.int .i64 ((xn : Int) - (k : Int) + y - (i : Int) - 1)] rfl (Rd.one _ _ _) rfl (by simp; rfl) (by unfold maxLen; omega) (by omega) (by rw [World.size_alloc]; omega) ?_; intro v' w6 ho6 hg6 hat6; have hne6 : some w4.heap.size ≠ (Value.slice av k cv).ownBlock := (fun e => by have := HRW.out.base _ e.symm; omega); have hbk6 := (HBK.out.alloc _).grown hg6 hne6; have hc6 : w6.cell? ⟨w4.heap.size, i, none⟩ = some (.slice av k cv) := (by rw [hbk6.cell i, List.getElem?_toArray, List.getElem?_set_self (by omega)]); have hf6 := hbk6.free i; obtain ⟨a9, c9, hv9⟩ := ho6.form; rw [List.length_append] at hv9; subst hv9)
            go_roundg gk2
            case measure => omega
            case rel =>
              refine ⟨k + 1, .slice a9 (vr.length + [Value.int .i64 ((xn : Int) - (k : Int) + y - (i : Int) - 1)].length) c9, by omega, by omega, by go_num, ?_, ?_, ?_, ?_, ?_⟩
              · have h1 := hbk6.set i (.slice a9 (vr.length + [Value.int .i64 ((xn : Int) - (k : Int) + y - (i : Int) - 1)].length) c9)
                rw [List.setIfInBounds_toArray, List.set_set] at h1
                exact h1
              · intro g' h1 h2 h3
                refine (Below.heap_setCell w6 ⟨w4.heap.size, i, none⟩ _ g' h3).trans ?_
                refine (hg6.block g' (by rw [World.size_alloc]; omega) (fun e => by have := HRW.out.base g' e.symm; omega)).trans ?_
                exact (Below.heap_alloc wr _ g' (by omega)).trans (HSM.out g' h1 h2 h3)
              · have h1 := hg6.size
                rw [World.size_alloc] at h1
                simp [World.setCell]; omega
              · rw [HNXT.out]
                have h1 := ho6.off (p := ⟨w4.heap.size, i, none⟩) (fun g' e => by have := ho6.base g' e; show g' ≠ w4.heap.size; omega) (.slice a9 (vr.length + [Value.int .i64 ((xn : Int) - (k : Int) + y - (i : Int) - 1)].length) c9)
                show Own _ _ _ _ _ (List.map (Value.int .i64) (row ++ [_]))
                rw [List.map_append, show List.map (Value.int .i64) row = vr from HVR.out.symm]
                exact h1.more
              · exact (((hbr.alloc hbz _).grown hg6 (by rw [World.size_alloc]; omega) (fun g' e => by have := HRW.out.base g' e; omega))).setCell (p := ⟨w4.heap.size, i, none⟩) hzw _
      · obtain rfl : i = n := by omega
        have hx0 : x = 0 := by
          rw [← hx]
          have h1 : P.length ≤ i := by rw [HNL.out]; exact Nat.le_refl _
          simp [List.getD_eq_getElem?_getD, List.getElem?_eq_none h1]
        subst hx0
        obtain ⟨hkp0, -⟩ := HY.out 0 (by omega)
        have hk0 : ∀ wx, (Instr.index 41 (.agg (arr (pad (conj P)))) (.int .i64 0)).run Try.prog wx = .ok (.int .i64 (pad (conj P))[0]) wx := fun wx => T_index (pad (conj P)) 0 hkp0 (by omega) wx
        have HO := Lib.hid ho
        clear ho hx
        go_wp2_with (refine wpList_load_row rfl 41 (.tmp 3) rfl w2.heap.size rfl 41 (arr (pad (conj P))) (0, 0) _ hT Try.underlying41 rfl hiT ?_)
        go_loopg [20] 16 (fun g ii wr => g = 16 ∧ ii = .int .i64 (0 : Int) ∧ wr = wo)
        case atStart => exact ⟨rfl, rfl, rfl⟩
        case round =>
          obtain ⟨-, rfl, rfl⟩ := hrel
          go_wp2
          rw [Exit.noGoto_ret]
          go_ret
          have hL0 : hkL P i ++ List.replicate (i - i) [] = hkL P P.length := by rw [Nat.sub_self, List.replicate_zero, List.append_nil, HNL.out]
          have h1 := HO.out
          rw [hL0] at h1
          rw [HNL.out] at h1 ⊢
          exact ⟨_, i, vs, rfl, h1, hbel⟩
    · obtain rfl : i = 16 := by omega
      obtain rfl : n = 16 := by omega
      have HO := Lib.hid ho
      clear ho
      go_wp2
      rw [Exit.noGoto_ret]
      go_ret
      have hL0 : hkL P 16 ++ List.replicate (16 - 16) [] = hkL P P.length := by rw [Nat.sub_self, List.replicate_zero, List.append_nil, HNL.out]
      have h1 := HO.out
      rw [hL0] at h1
      rw [HNL.out] at h1 ⊢
      exact ⟨_, 16, vs, rfl, h1, hbel⟩
end Go.Proofs.Ytmnlmahjgmhdiaa
namespace Go.Proofs.Ytmnlmahjgmhdiaa
open Go.RowKit NP
set_option maxRecDepth 8000
set_option linter.unusedVariables false
set_option linter.unusedSimpArgs false
def hkF (P : List Int) : List (List Int) := if valid P then hkL P P.length else []
theorem hkF_yes {P : List Int} (h : valid P = true) : hkF P = hkL P P.length := by simp [hkF, h]
theorem hkF_no {P : List Int} (h : valid P = false) : hkF P = [] := by simp [hkF, h]
theorem le_headH {L : List Int} (h : valid L = true) (i : Nat) (hi : i < L.length) : L[i] ≤ L.headD 0 := head_ge h _ (List.getElem_mem hi)
theorem op_append {P : Program} {o : Oper} {a : Act} {w w' : World} {K : Act → World → Prop} {Q : Exit → Act → World → Prop} {v v' : Value} {A : Option Addr} {m c : Nat} (s x : Operand) (t : TypeId)
    (ho : o.op = .call { callee := .builtin .append, args := #[s, x], argTypes := #[t, t] }) (hs : a.eval s = v) (hx : a.eval x = .slice A m c)
    (hrun : (Builtin.append_ #[t, t] o.type #[v, .slice A m c]).run P w = .ok v' w') (hK : K (a.put o.dst v') w') : o.wp P a w K Q := by
  unfold Oper.wp execOp
  simp only [ho, resolve, invoke, builtin, Sem.run_bind, Sem.run_pure, Result.andThen_ok, List.map_toArray, List.map_cons, List.map_nil, hs, hx]
  rw [hrun]
  exact hK
theorem OwnLL.aboveH {w w' : World} {lo hi lox hix : Nat} {eo e ex : TypeId} {v vx : Value} {vs vxs : List Value} {LL : List (List Int)} (h : OwnLL w lo hi eo e v vs LL) (hx : Own w lox hix ex vx vxs) (hg : w.grownBy w' vx.ownBlock) (hd : hix ≤ lo) : OwnLL w' lo hi eo e v vs LL :=
  ⟨h.outer.above hx hg hd, h.len, fun k u L hu hL => (h.inner k u L hu hL).above hx hg hd, h.apartO, h.apart⟩
theorem cntLL_leH (b : Nat) : ∀ LL : List (List Int), (∀ L ∈ LL, L.length ≤ b) → cntLL LL ≤ LL.length * b := by
  intro LL
  induction LL with
  | nil => intro _; simp [cntLL]
  | cons L LL ih =>
    intro h
    have h1 := ih fun M hM => h M (List.mem_cons_of_mem _ hM)
    have h2 := h L (List.mem_cons_self)
    unfold cntLL at *
    rw [List.map_cons, List.sum_cons, List.length_cons, Nat.succ_mul]
    omega
theorem hkF_rows (P : List Int) : (hkF P).length ≤ 16 ∧ ∀ L ∈ hkF P, L.length ≤ 16 := by
  cases hv : valid P with
  | false => rw [hkF_no hv]; simp
  | true =>
    have hl16 := (valid_bd hv).2.2.2
    rw [hkF_yes hv, hkL_len]
    refine ⟨hl16, fun L hL => ?_⟩
    unfold hkL at hL
    obtain ⟨j, hj, rfl⟩ := List.mem_map.1 hL
    have hj := List.mem_range.1 hj
    rw [hkR_len]
    have h3 := pad_nonneg hv j (by rw [pad_len hl16]; omega)
    rw [pad_get hl16 hj] at h3
    have e : P.getD j 0 = P[j] := by simp [List.getD_eq_getElem?_getD, hj]
    rw [e]
    omega
theorem hkF_cnt (P : List Int) : cntLL (hkF P) ≤ 256 := by
  have h := hkF_rows P
  have h1 := cntLL_leH 16 (hkF P) h.2
  have h2 := Nat.mul_le_mul_right 16 h.1
  omega
theorem iHooksOf_any (a : Option Addr) (c B : Nat) (L : List Int) (w : World) (h : Rd w B a (ints L)) (hB : B ≤ w.heap.size) (hl : L.length ≤ 4611686018427387904) :
    Calls Try.prog 13 #[.slice a L.length c] w fun e w' => ∃ a' c' us, e = .returned (.slice a' (hkF L).length c') ∧ OwnLL w' w.heap.size w'.heap.size 22 3 (.slice a' (hkF L).length c') us (hkF L) ∧ Below w.heap.size w w' := by
  have hi16 : (Try.prog.info? 41).map (·.size) = some (arr (dg L)).size := by rw [arr_size, dg_len]; exact T_info35
  have hsz : (arr (dg L)).size = (arr (List.replicate 16 0)).size := by rw [arr_size, arr_size, dg_len]; rfl
  cases hv : valid L with
  | false =>
    rw [hkF_no hv]
    have HV := Lib.hid hv
    clear hv
    go_enter Try.func13, Try.ntmps13
    go_wp2_with (first | (go_at_call 43; refine (diagramOf_any _ _ B L _ h hB hl).mono ?_; rintro e w1 ⟨rfl, hb1⟩; rw [HV.out]) | (refine wpList_store_row rfl 41 (.tmp 3) (.tmp 8) rfl w1.heap.size rfl (arr (dg L)) rfl 41 (arr (List.replicate 16 0)) (Blk.new w1 _ _) hi16 hsz (arr_one _) ?_))
    go_ret
    exact ⟨none, 0, [], rfl, OwnLL.nil _ _ _ _, below_setRow' (hb1.alloc hb1.size _) (by exact hb1.size) _⟩
  | true =>
    have HV := Lib.hid hv
    have HD := Lib.hid (dg_yes hv)
    have HH := Lib.hid (fun w => hooks_any L hv w)
    rw [← HD.out] at HH
    rw [hkF_yes hv]
    have HLL := Lib.hid (hkL_len L L.length)
    rw [HLL.out]
    clear hv
    go_enter Try.func13, Try.ntmps13
    go_wp2_with (first | (go_at_call 43; refine (diagramOf_any _ _ B L _ h hB hl).mono ?_; rintro e w1 ⟨rfl, hb1⟩; rw [HV.out]) | (refine wpList_store_row rfl 41 (.tmp 3) (.tmp 8) rfl w1.heap.size rfl (arr (dg L)) rfl 41 (arr (List.replicate 16 0)) (Blk.new w1 _ _) hi16 hsz (arr_one _) ?_) | (refine wpList_load_row rfl 41 (.tmp 3) rfl w1.heap.size rfl 41 (arr (dg L)) (0, 0) _ (Blk.new w1 _ _).row Try.underlying41 rfl hi16 ?_))
    refine (HH.out _).mono ?_
    rintro e w2 ⟨a2, c2, us, rfl, ho, hb2⟩
    have HO := Lib.hid ho
    clear ho
    go_wp2_with fail
    go_ret
    have hs := hb1.size
    exact ⟨a2, c2, us, rfl, HO.out.lower (by simp; omega), (below_setRow' (hb1.alloc hb1.size _) (by exact hb1.size) _).trans (hb2.mono (by simp; omega))⟩
set_option maxHeartbeats 4000000 in
theorem sHooksOf_any (a : Option Addr) (c B : Nat) (L : List Int) (w : World) (h : Rd w B a (ints L)) (hB : B ≤ w.heap.size) (hl : L.length ≤ 4611686018427387904) :
    Calls Try.prog 11 #[.slice a L.length c] w fun e w' => ∃ a' c' us, e = .returned (.slice a' (hkF L).length c') ∧ OwnLL w' w.heap.size w'.heap.size 22 3 (.slice a' (hkF L).length c') us (hkF L) ∧ Below w.heap.size w w' := by
  cases hv : valid L with
  | false =>
    rw [hkF_no hv]
    have HV := Lib.hid hv
    clear hv
    go_enter Try.func11, Try.ntmps11
    go_wp2_with (go_at_call 41; refine (validParts_any _ _ _ L _ h (by omega)).mono ?_; rintro e w1 ⟨rfl, hd1⟩; rw [HV.out])
    go_ret
    obtain ⟨nn, rfl⟩ := hd1
    exact ⟨none, 0, [], rfl, OwnLL.nil _ _ _ _, (Dr.n w nn).below _⟩
  | true =>
    obtain ⟨i0, hi, hz00, hz01, hz02⟩ := T_int'
    obtain ⟨i1, hj, hy0, hy1, hy2⟩ := info_parts T_ints3
    have HV := Lib.hid hv
    rw [hkF_yes hv]
    have HLL := Lib.hid (hkL_len L L.length)
    rw [HLL.out]
    have hl16 := (valid_bd hv).2.2.2
    have hmx : Try.prog.follows .mixedOrders = true := by kernel_rfl
    have HXB : Hid (∀ i (h : i < L.length), ∃ xn : Nat, L[i] = (xn : Int) ∧ L.getD i 0 = (xn : Int) ∧ 1 ≤ xn ∧ xn ≤ 16 ∧ xn ≤ (conj L).length) := Lib.hid (fun i h => by
      have h3 := pad_nonneg hv i (by rw [pad_len hl16]; omega)
      rw [pad_get hl16 h] at h3
      have h4 := preS_of_valid hv i h h
      have h5 := le_headH hv i h
      refine ⟨L[i].toNat, by omega, by rw [List.getD_eq_getElem?_getD, List.getElem?_eq_getElem h, Option.getD_some]; omega, by omega, by omega, by rw [conj_len]; omega⟩)
    have HYB : Hid (∀ k (h : k < (conj L).length), (conj L).getD k 0 = (conj L)[k] ∧ 0 ≤ (conj L)[k] ∧ (conj L)[k] ≤ 16) := Lib.hid (fun k h => by
      have hcv := valid_conj hv
      have h6 := (valid_bd hcv).2.2.2
      have h3 := pad_nonneg hcv k (by rw [pad_len h6]; omega)
      rw [pad_get h6 h] at h3
      exact ⟨by simp [List.getD_eq_getElem?_getD, h], h3⟩)
    clear hv
    go_enter Try.func11, Try.ntmps11
    go_wp2_with (go_at_call 41; refine (validParts_any _ _ _ L _ h (by omega)).mono ?_; rintro e w1 ⟨rfl, hd1⟩; rw [HV.out])
    have hb1 : Below w.heap.size w w1 := by obtain ⟨nn, rfl⟩ := hd1; exact (Dr.n w nn).below _
    have hz1 := hb1.size
    have h1 := h.below (hb1.mono hB)
    clear hd1
    refine (sconjugate_any _ _ _ L _ h1 (by omega) HV.out).mono ?_
    rintro e w2 ⟨aq, cq, rfl, oq, hb2⟩
    have h2 := h1.below (hb2.mono (by omega))
    have hbw2 : Below w.heap.size w w2 := hb1.trans (hb2.mono hz1)
    have hz2 := hb2.size
    clear hb1 hb2 h1
    have HQ := Lib.hid oq
    clear oq
    have hE := OwnLL.empty w2 22 3
    obtain ⟨w3, hw3⟩ : ∃ w3, w3 = w2.alloc (.cells #[] 22) := ⟨_, rfl⟩
    have hb3 : Below w2.heap.size w2 w3 := hw3 ▸ (Below.refl _ _).alloc (Nat.le_refl _) _
    have HW3 := Lib.hid hw3
    rw [← hw3] at hE
    clear hw3
    go_wp2_with fail
    rw [← HW3.out]
    go_loopw [4, 5] (fun v ii wr => ∃ (i : Nat) (us : List Value), ii = .int .i64 (i : Int) ∧ i ≤ L.length ∧ us.length = i ∧ OwnLL wr w2.heap.size wr.heap.size 22 3 v us (hkL L i) ∧ Below w2.heap.size w2 wr) (fun _ ii _ => L.length - (intOf ii).toNat)
    case atStart => exact ⟨0, [], rfl, Nat.zero_le _, rfl, hE.more, hb3⟩
    case round =>
      obtain ⟨i, us, rfl, hin, hul, ho, hbr⟩ := hrel
      obtain ⟨wo, rfl⟩ : ∃ wx : World, wx = wr := ⟨_, rfl⟩
      obtain ⟨a4, c4, hvo⟩ := ho.form
      rw [hkL_len] at hvo
      subst hvo
      by_cases hlt : i < L.length
      · have hlt' : (i : Int) < (L.length : Int) := by omega
        obtain ⟨xn, hxe, hxg, hx1, hx16, hxc⟩ := HXB.out i hlt
        obtain ⟨bp, op, rfl, hbB, hcp⟩ := h2.at_ hlt
        rw [hxe] at hcp
        have HNX := Lib.hid (hkL_next L i)
        rw [hxg, Int.toNat_natCast] at HNX
        have HO := Lib.hid ho
        have hzo := hbr.size
        have hbp2 : bp < w2.heap.size := by omega
        have hcpo : wo.cell? ⟨bp, op + i, none⟩ = some (.int .i64 (xn : Int)) := (hbr.cell (p := ⟨bp, op + i, none⟩) hbp2).trans hcp
        have hRE := Own.empty wo 3
        obtain ⟨w5, hw5⟩ : ∃ w5, w5 = wo.alloc (.cells #[] 3) := ⟨_, rfl⟩
        have hb5 : Below wo.heap.size wo w5 := hw5 ▸ (Below.refl _ _).alloc (Nat.le_refl _) _
        have HW5 := Lib.hid hw5
        rw [← hw5] at hRE
        clear hw5 ho hxe
        go_wp2_with fail
        rw [← HW5.out]
        go_loopw [6, 7] (fun v ii wr => ∃ k : Nat, ii = .int .i64 (k : Int) ∧ k ≤ xn ∧ Own wr wo.heap.size wr.heap.size 3 v (ints (hkR L i k)) ∧ Below wo.heap.size wo wr) (fun _ ii _ => xn - (intOf ii).toNat)
        case atStart => exact ⟨0, rfl, Nat.zero_le _, hRE.more, hb5⟩
        case round =>
          obtain ⟨k, rfl, hkx, hrow, hbk⟩ := hrel
          obtain ⟨av, cv, hvf⟩ := hrow.form
          rw [List.length_map, hkR_len] at hvf
          subst hvf
          have hcpr : wr.cell? ⟨bp, op + i, none⟩ = some (.int .i64 (xn : Int)) := (hbk.cell (p := ⟨bp, op + i, none⟩) (by show bp < wo.heap.size; omega)).trans hcpo
          by_cases hkl : k < xn
          · have hkl' : (k : Int) < (xn : Int) := by omega
            have hkc : k < (conj L).length := by omega
            obtain ⟨hyg, hy0', hy16⟩ := HYB.out k hkc
            obtain ⟨gq, rfl, hcq⟩ := HQ.out.read (k := k) (by simpa using hkc)
            rw [List.getElem_map] at hcq
            obtain ⟨y, hy⟩ : ∃ y, (conj L)[k] = y := ⟨_, rfl⟩
            rw [hy] at hcq hyg hy0' hy16
            have hgq : gq < w2.heap.size := HQ.out.lt gq rfl
            have hcqr : wr.cell? ⟨gq, k, none⟩ = some (.int .i64 y) := ((hbr.trans (hbk.mono hzo)).cell (p := ⟨gq, k, none⟩) hgq).trans hcq
            have HNK := Lib.hid (hkR_next L i k)
            rw [hxg, hyg] at HNK
            obtain ⟨vr, hvr⟩ : ∃ vr, vr = ints (hkR L i k) := ⟨_, rfl⟩
            have hvrl : vr.length = k := by rw [hvr, List.length_map, hkR_len]
            rw [← hvr] at hrow
            have HRW := Lib.hid hrow
            have HVR := Lib.hid hvr
            have HVL := Lib.hid hvrl
            have hzk := hbk.size
            have hil : i ≤ 16 := by omega
            have hkcl : (k : Int) < ((conj L).length : Int) := by omega
            have hwa := IntWalk.i64_in ((xn : Int) - (k : Int)) (by omega)
            have hwb := IntWalk.i64_in ((xn : Int) - (k : Int) + y) (by omega)
            have hwc := IntWalk.i64_in ((xn : Int) - (k : Int) + y - (i : Int)) (by omega)
            have hwd := IntWalk.i64_in ((xn : Int) - (k : Int) + y - (i : Int) - 1) (by omega)
            clear hrow hvr hvrl hy hyg
            go_wp2_with fail
            refine wp_region_held_drew (S := (fun w' => w'.cell? ⟨bp, op + i, none⟩ = some (.int .i64 (xn : Int)) ∧ w'.cell? ⟨gq, k, none⟩ = some (.int .i64 y) ∧ True)) (by kernel_rfl) (⟨hcpr, hcqr, trivial⟩) (fun hS0 => ?_)
            refine wpAnyH_take (i := 0) (v := .slice av k cv) (by simp only [List.getElem?_toArray, List.getElem?_cons_succ, List.getElem?_cons_zero]; exact rfl) (by kernel_rfl) (by kernel_rfl) (by kernel_rfl) (by intro _ _ _ h; exact h) (Or.inl ⟨by kernel_rfl, by intro w hSw; go_simp⟩) (by assumption) ?_
            simp only [Act.put, List.setIfInBounds_toArray, List.set_cons_zero, List.set_cons_succ, List.toList_toArray]
            refine wpAnyH_take (i := 1) (v := .slice (some ⟨bp, op, none⟩) L.length c) (by simp only [List.getElem?_toArray, List.getElem?_cons_succ, List.getElem?_cons_zero]; exact rfl) (by kernel_rfl) (by kernel_rfl) (by kernel_rfl) (by intro _ _ _ h; exact h) (Or.inl ⟨by kernel_rfl, by intro w hSw; go_simp⟩) (by assumption) ?_
            simp only [Act.put, List.setIfInBounds_toArray, List.set_cons_zero, List.set_cons_succ, List.toList_toArray]
            refine wpAnyH_take (i := 2) (v := .int .i64 (i : Int)) (by simp only [List.getElem?_toArray, List.getElem?_cons_succ, List.getElem?_cons_zero]; exact rfl) (by kernel_rfl) (by kernel_rfl) (by kernel_rfl) (by intro _ _ _ h; exact h) (Or.inl ⟨by kernel_rfl, by intro w hSw; go_simp⟩) (by assumption) ?_
            simp only [Act.put, List.setIfInBounds_toArray, List.set_cons_zero, List.set_cons_succ, List.toList_toArray]
            refine wpAnyH_take (i := 3) (v := .pointer (some ⟨bp, op + i, none⟩)) (by simp only [List.getElem?_toArray, List.getElem?_cons_succ, List.getElem?_cons_zero]; exact rfl) (by kernel_rfl) (by kernel_rfl) (by kernel_rfl) (by intro _ _ _ h; exact h) (Or.inl ⟨by kernel_rfl, by intro w hSw; go_simp⟩) (by assumption) ?_
            simp only [Act.put, List.setIfInBounds_toArray, List.set_cons_zero, List.set_cons_succ, List.toList_toArray]
            refine wpAnyH_take (i := 4) (v := .int .i64 (xn : Int)) (by simp only [List.getElem?_toArray, List.getElem?_cons_succ, List.getElem?_cons_zero]; exact rfl) (by kernel_rfl) (by kernel_rfl) (by kernel_rfl) (by intro _ _ _ h; exact h) (Or.inl ⟨by kernel_rfl, by intro w hSw; obtain ⟨s1, s2, s3⟩ := hSw; go_simp⟩) (by assumption) ?_
            simp only [Act.put, List.setIfInBounds_toArray, List.set_cons_zero, List.set_cons_succ, List.toList_toArray]
            refine wpAnyH_take (i := 5) (v := .int .i64 (k : Int)) (by simp only [List.getElem?_toArray, List.getElem?_cons_succ, List.getElem?_cons_zero]; exact rfl) (by kernel_rfl) (by kernel_rfl) (by kernel_rfl) (by intro _ _ _ h; exact h) (Or.inl ⟨by kernel_rfl, by intro w hSw; go_simp⟩) (by assumption) ?_
            simp only [Act.put, List.setIfInBounds_toArray, List.set_cons_zero, List.set_cons_succ, List.toList_toArray]
            refine wpAnyH_take (i := 6) (v := .int .i64 ((xn : Int) - (k : Int))) (by simp only [List.getElem?_toArray, List.getElem?_cons_succ, List.getElem?_cons_zero]; exact rfl) (by kernel_rfl) (by kernel_rfl) (by kernel_rfl) (by intro _ _ _ h; exact h) (Or.inl ⟨by kernel_rfl, by intro w hSw; go_simp⟩) (by assumption) ?_
            simp only [Act.put, List.setIfInBounds_toArray, List.set_cons_zero, List.set_cons_succ, List.toList_toArray]
            refine wpAnyH_take (i := 7) (v := .slice (some ⟨gq, 0, none⟩) (conj L).length cq) (by simp only [List.getElem?_toArray, List.getElem?_cons_succ, List.getElem?_cons_zero]; exact rfl) (by kernel_rfl) (by kernel_rfl) (by kernel_rfl) (by intro _ _ _ h; exact h) (Or.inl ⟨by kernel_rfl, by intro w hSw; go_simp⟩) (by assumption) ?_
            simp only [Act.put, List.setIfInBounds_toArray, List.set_cons_zero, List.set_cons_succ, List.toList_toArray]
            refine wpAnyH_take (i := 8) (v := .int .i64 (k : Int)) (by simp only [List.getElem?_toArray, List.getElem?_cons_succ, List.getElem?_cons_zero]; exact rfl) (by kernel_rfl) (by kernel_rfl) (by kernel_rfl) (by intro _ _ _ h; exact h) (Or.inl ⟨by kernel_rfl, by intro w hSw; go_simp⟩) (by assumption) ?_
            simp only [Act.put, List.setIfInBounds_toArray, List.set_cons_zero, List.set_cons_succ, List.toList_toArray]
            refine wpAnyH_take (i := 9) (v := .pointer (some ⟨gq, k, none⟩)) (by simp only [List.getElem?_toArray, List.getElem?_cons_succ, List.getElem?_cons_zero]; exact rfl) (by kernel_rfl) (by kernel_rfl) (by kernel_rfl) (by intro _ _ _ h; exact h) (Or.inl ⟨by kernel_rfl, by intro w hSw; go_simp⟩) (by assumption) ?_
            simp only [Act.put, List.setIfInBounds_toArray, List.set_cons_zero, List.set_cons_succ, List.toList_toArray]
            refine wpAnyH_take (i := 10) (v := .int .i64 y) (by simp only [List.getElem?_toArray, List.getElem?_cons_succ, List.getElem?_cons_zero]; exact rfl) (by kernel_rfl) (by kernel_rfl) (by kernel_rfl) (by intro _ _ _ h; exact h) (Or.inl ⟨by kernel_rfl, by intro w hSw; obtain ⟨s1, s2, s3⟩ := hSw; go_simp⟩) (by assumption) ?_
            simp only [Act.put, List.setIfInBounds_toArray, List.set_cons_zero, List.set_cons_succ, List.toList_toArray]
            refine wpAnyH_take (i := 11) (v := .int .i64 ((xn : Int) - (k : Int) + y)) (by simp only [List.getElem?_toArray, List.getElem?_cons_succ, List.getElem?_cons_zero]; exact rfl) (by kernel_rfl) (by kernel_rfl) (by kernel_rfl) (by intro _ _ _ h; exact h) (Or.inl ⟨by kernel_rfl, by intro w hSw; go_simp⟩) (by assumption) ?_
            simp only [Act.put, List.setIfInBounds_toArray, List.set_cons_zero, List.set_cons_succ, List.toList_toArray]
            refine wpAnyH_take (i := 12) (v := .int .i64 (i : Int)) (by simp only [List.getElem?_toArray, List.getElem?_cons_succ, List.getElem?_cons_zero]; exact rfl) (by kernel_rfl) (by kernel_rfl) (by kernel_rfl) (by intro _ _ _ h; exact h) (Or.inl ⟨by kernel_rfl, by intro w hSw; go_simp⟩) (by assumption) ?_
            simp only [Act.put, List.setIfInBounds_toArray, List.set_cons_zero, List.set_cons_succ, List.toList_toArray]
            refine wpAnyH_take (i := 13) (v := .int .i64 ((xn : Int) - (k : Int) + y - (i : Int))) (by simp only [List.getElem?_toArray, List.getElem?_cons_succ, List.getElem?_cons_zero]; exact rfl) (by kernel_rfl) (by kernel_rfl) (by kernel_rfl) (by intro _ _ _ h; exact h) (Or.inl ⟨by kernel_rfl, by intro w hSw; go_simp⟩) (by assumption) ?_
            simp only [Act.put, List.setIfInBounds_toArray, List.set_cons_zero, List.set_cons_succ, List.toList_toArray]
            refine wpAnyH_take (i := 14) (v := .int .i64 ((xn : Int) - (k : Int) + y - (i : Int) - 1)) (by simp only [List.getElem?_toArray, List.getElem?_cons_succ, List.getElem?_cons_zero]; exact rfl) (by kernel_rfl) (by kernel_rfl) (by kernel_rfl) (by intro _ _ _ h; exact h) (Or.inl ⟨by kernel_rfl, by intro w hSw; go_simp⟩) (by assumption) ?_
            simp only [Act.put, List.setIfInBounds_toArray, List.set_cons_zero, List.set_cons_succ, List.toList_toArray]
            refine wpAnyH_ready (rs := [15]) (by kernel_rfl) (by simp) ?_
            refine AllReadyH.cons (o := _) (by simp only [List.getElem?_toArray, List.getElem?_cons_succ, List.getElem?_cons_zero]; exact rfl) (fun K hK => ?_) AllReadyH.nil
            rw [if_pos (by rfl)]
            go_simp
            refine hK.out _ _ ⟨(Below.cell ((Below.refl wr.drew.heap.size wr.drew).alloc (Nat.le_refl _) _) (p := ⟨bp, op + i, none⟩) (World.block_lt_of_cell? wr _ hcpr)).trans hcpr, (Below.cell ((Below.refl wr.drew.heap.size wr.drew).alloc (Nat.le_refl _) _) (p := ⟨gq, k, none⟩) (World.block_lt_of_cell? wr _ hcqr)).trans hcqr, trivial⟩ (fun _ => ?_)
            clear hK K
            try simp only [Act.put, List.setIfInBounds_toArray, List.set_cons_zero, List.set_cons_succ, List.toList_toArray]
            obtain ⟨w6, hw6⟩ : ∃ w6, (wr.alloc (.cells #[.int .i64 ((xn : Int) - (k : Int) + y - (i : Int) - 1)] 3)).drew = w6 := ⟨_, rfl⟩
            have hd6 : Below wr.heap.size wr w6 := by rw [← hw6]; exact ((Below.refl wr.heap.size wr).alloc (Nat.le_refl _) _).trans ((Dr.n _ 1).below _)
            have hr6 : Rd w6 (wr.heap.size + 1) (some ⟨wr.heap.size, 0, none⟩) [.int .i64 ((xn : Int) - (k : Int) + y - (i : Int) - 1)] := by rw [← hw6]; exact (Rd.one wr _ _).dr (Dr.n _ 1)
            have hz6 : wr.heap.size < w6.heap.size := by rw [← hw6]; show wr.heap.size < (wr.alloc _).heap.size; rw [World.size_alloc]; exact Nat.lt_succ_self _
            rw [hw6]
            clear hw6
            obtain ⟨v', w7, hrun, ho7, hg7, hat7⟩ := run_append_o (P := Try.prog) (m := 1) (c := 1) w6 wo.heap.size wr.heap.size 22 22 3 i0 (.int .i64 0) 8 Try.underlying22 hi hz00 hz01 hz02 rfl (HRW.out.below hd6) hr6 rfl (by simp; rfl) (by unfold maxLen; have := HVL.out; omega) (by have := HVL.out; omega) (by omega)
            have hb7 : Below wo.heap.size w6 w7 := (Below.refl _ _).grown hg7 (by omega) (fun g e => HRW.out.base g e)
            have hcp7 := (hb7.cell (p := ⟨bp, op + i, none⟩) (by show bp < wo.heap.size; omega)).trans ((hd6.cell (p := ⟨bp, op + i, none⟩) (World.block_lt_of_cell? _ _ hcpr)).trans hcpr)
            have hcq7 := (hb7.cell (p := ⟨gq, k, none⟩) (by show gq < wo.heap.size; omega)).trans ((hd6.cell (p := ⟨gq, k, none⟩) (World.block_lt_of_cell? _ _ hcqr)).trans hcqr)
            refine wpAnyH_ready (rs := [16]) (by kernel_rfl) (by simp) ?_
            refine AllReadyH.cons (o := _) (by simp only [List.getElem?_toArray, List.getElem?_cons_succ, List.getElem?_cons_zero]; exact rfl) (fun K hK => ?_) AllReadyH.nil
            rw [if_pos (by rfl)]
            refine op_append (.tmp 29) (.tmp 44) 22 rfl rfl rfl hrun ?_
            refine hK.out _ _ ⟨hcp7, hcq7, trivial⟩ (fun _ => ?_)
            clear hK K
            try simp only [Act.put, List.setIfInBounds_toArray, List.set_cons_zero, List.set_cons_succ, List.toList_toArray]
            obtain ⟨a9, c9, hv9⟩ := ho7.form
            rw [List.length_append, HVL.out] at hv9
            subst hv9
            refine wpAnyH_take (i := 17) (v := .slice a9 (k + [Value.int .i64 ((xn : Int) - (k : Int) + y - (i : Int) - 1)].length) c9) (by simp only [List.getElem?_toArray, List.getElem?_cons_succ, List.getElem?_cons_zero]; exact rfl) (by kernel_rfl) (by kernel_rfl) (by kernel_rfl) (by intro _ _ _ h; exact h) (Or.inl ⟨by kernel_rfl, by intro w hSw; go_simp⟩) (by assumption) ?_
            simp only [Act.put, List.setIfInBounds_toArray, List.set_cons_zero, List.set_cons_succ, List.toList_toArray]
            refine wpAnyH_done (by kernel_rfl) ?_ _
            try simp only [Act.put, List.setIfInBounds_toArray, List.set_cons_zero, List.set_cons_succ]
            go_wp2_with fail
            go_roundw
            case rel =>
              refine ⟨k + 1, by go_num, by omega, ?_, (hbk.trans (hd6.mono hzk)).trans hb7⟩
              rw [HNK.out]
              show Own _ _ _ _ _ (List.map (Value.int .i64) (hkR L i k ++ [_]))
              rw [List.map_append, show List.map (Value.int .i64) (hkR L i k) = vr from HVR.out.symm]
              exact ho7
            case measure => simp [intOf] <;> omega
          · obtain rfl : k = xn := by omega
            have HRW := Lib.hid hrow
            clear hrow
            go_wp2_with (at_builtin; refine wpList_append_o _ rfl (.tmp 46) (.tmp 48) 23 rfl w2.heap.size wo.heap.size 22 i1 (.slice none 0 0) 24 Try.underlying23 hj hy0 hy1 hy2 rfl _ us rfl ((HO.out.outer.below hbk).alloc _) (wr.heap.size + 1) (some ⟨wr.heap.size, 0, none⟩) 1 1 [.slice av k cv] rfl (Rd.one wr _ _) rfl (by intro u hu; rw [List.mem_singleton.1 hu]; rfl) (by unfold maxLen; omega) (by omega) (by rw [World.size_alloc]; have := hbk.size; omega) ?_; intro v' w6 ho6 hg6 hat6)
            go_roundw
            case rel =>
              have hzk := hbk.size
              refine ⟨i + 1, us ++ [.slice av k cv], by go_num, by omega, by simp [hul], ?_, ((hbr.trans (hbk.mono hzo)).alloc (by omega) _).grown hg6 (by rw [World.size_alloc]; omega) (fun g e => HO.out.outer.base g e)⟩
              rw [HNX.out]
              exact ((HO.out.below hbk).below ((Below.refl _ _).alloc (by omega) _)).append (HRW.out.alloc _) (Nat.le_refl _) (by omega) ho6 hg6 hat6
            case measure => simp [intOf] <;> omega
      · obtain rfl : i = L.length := by omega
        have HO := Lib.hid ho
        clear ho
        go_wp2_with fail
        go_ret
        exact ⟨a4, c4, us, rfl, HO.out.lower (by omega), hbw2.trans (hbr.mono (by have := hbw2.size; omega))⟩
end Go.Proofs.Ytmnlmahjgmhdiaa
namespace Go.Proofs.Ytmnlmahjgmhdiaa
open Go.RowKit NP
set_option maxRecDepth 8000
set_option linter.unusedVariables false
set_option linter.unusedSimpArgs false
attribute [local go_sem ↓] Go.wp_at_zero Go.wp_at_succ
/-- readable lists of lists, with their bounds -/
structure RdH (w : World) (lo hi : Nat) (a : Option Addr) (LL : List (List Int)) : Prop where
  rdF : RdLF w lo hi a LL
  le : hi ≤ w.heap.size
theorem RdH.below {w w' : World} {lo hi : Nat} {a : Option Addr} {LL : List (List Int)} (h : RdH w lo hi a LL) (hb : Below hi w w') : RdH w' lo hi a LL := ⟨h.rdF.below hb, Nat.le_trans h.le hb.size⟩
theorem RdH.rd {w : World} {lo hi : Nat} {a : Option Addr} {LL : List (List Int)} (h : RdH w lo hi a LL) : RdLL w hi a LL := h.rdF.rd
theorem sumQ_tab : ((List.range 13).all fun n => (allQ n n n).all fun L => sumL L == (n : Int)) = true := by decide +kernel
theorem mem_sumQ {n : Nat} (hn : n ≤ 12) {L : List Int} (h : L ∈ allQ n n n) : sumL L = (n : Int) := by
  have h1 := sumQ_tab
  rw [List.all_eq_true] at h1
  have h2 := h1 n (List.mem_range.2 (by omega))
  rw [List.all_eq_true] at h2
  exact eq_of_beq (h2 L h)
theorem cvF_ok (P : List Int) : (cvF P).length ≤ 1000 ∧ ∀ L ∈ cvF P, valid L = true ∧ L.length ≤ 16 ∧ sumL L = sumL P := by
  unfold cvF
  split
  · rename_i h
    simp only [Bool.and_eq_true, decide_eq_true_eq] at h
    have hs := valid_bd h.1
    refine ⟨Nat.le_trans (List.length_filter_le _ _) (allQ_len (by omega)), fun L hL => ?_⟩
    have hm := (List.mem_filter.1 hL).1
    have := (allQ_ok (by omega) L hm).1
    have h2 := mem_sumQ (by omega) hm
    exact ⟨this, (valid_bd this).2.2.2, by omega⟩
  · simp
theorem cuF_ok (P : List Int) : (cuF P).length ≤ 1000 ∧ ∀ L ∈ cuF P, valid L = true ∧ L.length ≤ 16 ∧ sumL L = sumL P := by
  unfold cuF
  split
  · rename_i h
    simp only [Bool.and_eq_true, decide_eq_true_eq] at h
    have hs := valid_bd h.1
    refine ⟨Nat.le_trans (List.length_filter_le _ _) (allQ_len (by omega)), fun L hL => ?_⟩
    have hm := (List.mem_filter.1 hL).1
    have := (allQ_ok (by omega) L hm).1
    have h2 := mem_sumQ (by omega) hm
    exact ⟨this, (valid_bd this).2.2.2, by omega⟩
  · simp
theorem cvF_rows (P : List Int) : (cvF P).length ≤ 1000 ∧ ∀ L ∈ cvF P, L.length ≤ 16 := ⟨(cvF_ok P).1, fun L hL => ((cvF_ok P).2 L hL).2.1⟩
theorem cuF_rows (P : List Int) : (cuF P).length ≤ 1000 ∧ ∀ L ∈ cuF P, L.length ≤ 16 := ⟨(cuF_ok P).1, fun L hL => ((cuF_ok P).2 L hL).2.1⟩
theorem cvF_cnt (P : List Int) : cntLL (cvF P) ≤ 16000 := by
  have h := cvF_rows P
  have h1 := cntLL_leH 16 (cvF P) h.2
  have h2 := Nat.mul_le_mul_right 16 h.1
  omega
theorem cuF_cnt (P : List Int) : cntLL (cuF P) ≤ 16000 := by
  have h := cuF_rows P
  have h1 := cntLL_leH 16 (cuF P) h.2
  have h2 := Nat.mul_le_mul_right 16 h.1
  omega
set_option maxRecDepth 100000 in
set_option maxHeartbeats 8000000 in
theorem sCoversUp_any (a : Option Addr) (c B : Nat) (L : List Int) (w : World) (h : Rd w B a (ints L)) (hB : B ≤ w.heap.size) (hl : L.length ≤ 4611686018427387904) :
    Calls Try.prog 36 #[.slice a L.length c] w fun e w' => ∃ a' c', e = .returned (.slice a' (cuF L).length c') ∧ RdLF w' w.heap.size w'.heap.size a' (cuF L) ∧ Below w.heap.size w w' := by
  by_cases hok : valid L = true ∧ sumL L ≤ 12
  · obtain ⟨hv, h12⟩ := hok
    obtain ⟨i1, hj, hy0, hy1, hy2⟩ := info_parts T_ints3
    have HV := Lib.hid hv
    have hcv := valid_conj hv
    have hsc := sumL_conj hv
    obtain ⟨CC, hCC⟩ : ∃ CC, cvF (conj L) = CC := ⟨_, rfl⟩
    have HU : Hid (srtF (CC.map conj) = cuF L) := Lib.hid (by rw [← covU_eq hv h12, cov_eq hcv (by omega), hCC])
    rw [← HU.out]
    have hok2 := cvF_ok (conj L)
    rw [hCC] at hok2
    have hln := hok2.1
    have HCR : Hid (∀ X ∈ CC, valid X = true ∧ X.length ≤ 16 ∧ sumL X = sumL L) := Lib.hid (fun X hX => by
      have h3 := hok2.2 X hX
      exact ⟨h3.1, h3.2.1, by rw [h3.2.2, hsc]⟩)
    have HCM : Hid (∀ X ∈ CC.map conj, valid X = true ∧ sumL X = sumL L) := Lib.hid (fun X hX => by
      obtain ⟨Y, hY, rfl⟩ := List.mem_map.1 hX
      have h3 := HCR.out Y hY
      exact ⟨valid_conj h3.1, by rw [sumL_conj h3.1]; exact h3.2.2⟩)
    have hl16 := (valid_bd hv).2.2.2
    have HCL : Hid ((conj L).length ≤ 16) := Lib.hid (valid_bd hcv).2.2.2
    have HCC := Lib.hid hCC
    have HF := Lib.hid (valid_fits hv)
    have h12' : ¬ 12 < sumL L := by omega
    clear hv hcv hsc hCC hok2
    go_enter Try.func36, Try.ntmps36
    go_wp2_with (first | (go_at_call 41; refine (validParts_any _ _ _ L _ h (by omega)).mono ?_; rintro e w1 ⟨rfl, hd1⟩; rw [HV.out]; obtain ⟨nn, rfl⟩ := hd1) | (go_at_call 50; refine (sum_any _ _ _ L _ (h.dr (Dr.n w nn)) HF.out (by omega)).mono ?_; rintro e w1 ⟨rfl, rfl⟩))
    have hb1 : Below w.heap.size w (w.drewN nn) := (Dr.n w nn).below _
    have hE := OwnLL.empty (w.drewN nn) 22 3
    have hbE : Below w.heap.size w ((w.drewN nn).alloc (.cells #[] 22)) := hb1.alloc hb1.size _
    obtain ⟨wE, hwE⟩ : ∃ wE, wE = (w.drewN nn).alloc (.cells #[] 22) := ⟨_, rfl⟩
    have hE' : OwnLL wE w.heap.size wE.heap.size 22 3 (.slice (some ⟨w.heap.size, 0, none⟩) 0 0) [] [] := by rw [hwE]; exact hE.more
    rw [← hwE] at hbE
    have hzE := hbE.size
    have HWE := Lib.hid hwE
    clear hE hwE hb1
    refine (sconjugate_any _ _ B L _ (HWE.out ▸ h.below (hbE.mono hB)) (by rw [← HWE.out]; omega) HV.out).mono ?_
    rw [← HWE.out]
    rintro e w2 ⟨aq, cq, rfl, oq, hb2⟩
    go_wp2_with fail
    refine (sCoversOf_any _ _ _ (conj L) _ oq.rd oq.le (by have := HCL.out; omega)).mono ?_
    rintro e w3 ⟨a3, c3, rfl, r3, hb3⟩
    rw [HCC.out] at r3 ⊢
    have hz2 := hb2.size
    have hz3 := hb3.size
    have hbE3 : Below wE.heap.size wE w3 := hb2.trans (hb3.mono hz2)
    have hO3 : OwnLL w3 w.heap.size w3.heap.size 22 3 (.slice (some ⟨w.heap.size, 0, none⟩) 0 0) [] [] := (hE'.below hbE3).more
    have hbw3 : Below w.heap.size w w3 := hbE.trans (hbE3.mono hzE)
    have HR3 := Lib.hid r3
    have hwl : w.heap.size < w2.heap.size := by
      have : wE.heap.size = w.heap.size + 1 := by rw [HWE.out, World.size_alloc]; rfl
      omega
    clear oq hb2 hb3 hE' hbE r3 hbE3
    go_wp2_with fail
    go_loopw [3, 5] (fun v ii wr => ∃ (i : Nat) (us : List Value), i ≤ CC.length ∧ ii = .int .i64 (i : Int) ∧ Below w.heap.size w wr ∧ w3.heap.size ≤ wr.heap.size ∧ Same2 w2.heap.size w3.heap.size w3 wr ∧ (∀ g, v.ownBlock = some g → g < w2.heap.size ∨ w3.heap.size ≤ g) ∧ OwnLL wr w.heap.size wr.heap.size 22 3 v us ((CC.take i).map conj)) (fun _ ii _ => CC.length - (intOf ii).toNat)
    case atStart => exact ⟨0, [], Nat.zero_le _, rfl, hbw3, Nat.le_refl _, Same2.refl _ _ _, fun g hg => by have e : w.heap.size = g := Option.some.inj hg; omega, hO3⟩
    case round =>
      obtain ⟨i, us, hin, rfl, hbr, hz3r, hs2, hob, ho⟩ := hrel
      obtain ⟨wo, rfl⟩ : ∃ wx : World, wx = wr := ⟨_, rfl⟩
      obtain ⟨a4, c4, hvo⟩ := ho.form
      subst hvo
      have hul := ho.len
      have hlm : ((CC.take i).map conj).length = i := by simp; omega
      rw [hlm] at hul ho hob ⊢
      have HO := Lib.hid ho
      have hzo := hbr.size
      clear hO3 ho hlm
      by_cases hlt : i < CC.length
      · have hlt' : (i : Int) < (CC.length : Int) := by omega
        obtain ⟨b, o, ar, cr, rfl, hb1, hb2, hcell, hrd, -, -⟩ := (HR3.out.same2 hs2).at_ hlt
        obtain ⟨hvX, hlX, hsX⟩ := HCR.out CC[i] (List.getElem_mem hlt)
        have HVX := Lib.hid hvX
        have HRD := Lib.hid hrd
        have HOB := Lib.hid hob
        have HUL := Lib.hid hul
        clear hvX hsX hrd hob hul
        go_wp2_with fail
        refine (sconjugate_any _ _ _ CC[i] _ HRD.out hz3r HVX.out).mono ?_
        rintro e w5 ⟨a5, c5, rfl, oq5, hb5⟩
        have hz5 := hb5.size
        have HQ5 := Lib.hid oq5
        clear oq5
        go_wp2_with (at_builtin; refine wpList_append_o _ rfl (.tmp 24) (.tmp 30) 23 rfl w.heap.size wo.heap.size 22 i1 (.slice none 0 0) 24 Try.underlying23 hj hy0 hy1 hy2 rfl _ us rfl ((HO.out.outer.below hb5).alloc _) (w5.heap.size + 1) (some ⟨w5.heap.size, 0, none⟩) 1 1 [.slice a5 (conj CC[i]).length c5] rfl (Rd.one w5 _ _) rfl (by intro u hu; rw [List.mem_singleton.1 hu]; rfl) (by unfold maxLen; have := HUL.out; omega) (by have := HUL.out; omega) (by rw [World.size_alloc]; omega) ?_; intro v' w6 ho6 hg6 hat6)
        go_roundw
        case rel =>
          have hs6 := hg6.size
          rw [World.size_alloc] at hs6
          refine ⟨i + 1, us ++ [.slice a5 (conj CC[i]).length c5], by omega, by go_num, ((hbr.trans (hb5.mono hzo)).alloc (by omega) _).grown hg6 (by rw [World.size_alloc]; omega) (fun g e => HO.out.outer.base g e), by omega, ?_, ?_, ?_⟩
          · refine (hs2.trans (Same2.of (hb5.alloc hz5 _) hz3r)).trans (Same2.grown hg6 (by rw [World.size_alloc]; omega) HOB.out)
          · intro g hg
            rcases hat6 with h1 | h1
            · exact HOB.out g (h1 ▸ hg)
            · rw [h1] at hg
              injection hg with hg
              rw [World.size_alloc] at hg
              right; omega
          · have e : (CC.take (i + 1)).map conj = (CC.take i).map conj ++ [conj CC[i]] := by rw [List.take_succ_eq_append_getElem hlt, List.map_append]; rfl
            rw [e]
            exact ((HO.out.below hb5).below ((Below.refl _ _).alloc (by omega) _)).append (HQ5.out.alloc _) (Nat.le_refl _) (by omega) ho6 hg6 hat6
        case measure => simp [intOf]; omega
      · obtain rfl : i = CC.length := by omega
        have ht : CC.take CC.length = CC := List.take_of_length_le (Nat.le_refl _)
        have HO2 : Hid (OwnLL wo w.heap.size wo.heap.size 22 3 (.slice a4 (CC.map conj).length c4) us (CC.map conj)) := Lib.hid (by
          have := HO.out
          rw [ht] at this
          rw [List.length_map]
          exact this)
        have hlm : (CC.map conj).length = CC.length := List.length_map ..
        clear HO hob ht
        go_wp2_with fail
        refine (show Calls Try.prog 59 #[.slice a4 CC.length c4] wo _ by rw [← hlm]; exact sorted_any _ _ w.heap.size wo.heap.size (sumL L) (CC.map conj) wo HO2.out.rdF hbr.size (Nat.le_refl _) (by omega) HCM.out).mono ?_
        rintro e w5 ⟨a5, c5, rfl, hr5, hb5⟩
        go_wp2_with fail
        go_ret
        exact ⟨a5, c5, rfl, hr5, hbr.trans (hb5.mono hbr.size)⟩
  · have hc : cuF L = [] := by
      unfold cuF
      rw [if_neg]
      simp only [Bool.and_eq_true, decide_eq_true_eq]
      exact hok
    rw [hc]
    by_cases hv : valid L = true
    · have h12 : 12 < sumL L := by
        rcases Int.lt_or_le 12 (sumL L) with h1 | h1
        · exact h1
        · exact absurd ⟨hv, h1⟩ hok
      have HV := Lib.hid hv
      have HF := Lib.hid (valid_fits hv)
      clear hv hok
      go_enter Try.func36, Try.ntmps36
      go_wp2_with (first | (go_at_call 41; refine (validParts_any _ _ _ L _ h (by omega)).mono ?_; rintro e w1 ⟨rfl, hd1⟩; rw [HV.out]; obtain ⟨nn, rfl⟩ := hd1) | (go_at_call 50; refine (sum_any _ _ _ L _ (h.dr (Dr.n w nn)) HF.out (by omega)).mono ?_; rintro e w1 ⟨rfl, rfl⟩))
      go_ret
      exact ⟨none, 0, rfl, RdLF.nil _ _ _, (Dr.n w nn).below _⟩
    · have HV : Hid (valid L = false) := Lib.hid (by simpa using hv)
      clear hv hok
      go_enter Try.func36, Try.ntmps36
      go_wp2_with (go_at_call 41; refine (validParts_any _ _ _ L _ h (by omega)).mono ?_; rintro e w1 ⟨rfl, hd1⟩; rw [HV.out]; obtain ⟨nn, rfl⟩ := hd1)
      go_ret
      exact ⟨none, 0, rfl, RdLF.nil _ _ _, (Dr.n w nn).below _⟩
end Go.Proofs.Ytmnlmahjgmhdiaa
namespace Go.Proofs.Ytmnlmahjgmhdiaa
open Go.RowKit NP
set_option maxRecDepth 8000
set_option linter.unusedVariables false
set_option linter.unusedSimpArgs false
theorem DrawCoversOf_any (a : Option Addr) (c B : Nat) (bs : List Int) (w : World) (h : Rd w B a (bs.map (Value.int .u8))) (hB : B ≤ w.heap.size) (hb : ∀ n ∈ bs, (Lit.int .u8 n).wf = true) (hl : bs.length ≤ 1048576) (hc : bs.length ≤ c) :
    Calls Try.prog 32 #[.slice a bs.length c] w fun e w' => ∃ a' c' M, e = .returned (.slice a' M.length c') ∧ Own w' w.heap.size w'.heap.size 3 (.slice a' M.length c') (ints M) ∧ Small M ∧ Below w.heap.size w w' := by
  go_enter Try.func32, Try.ntmps32
  go_wp2_with fail
  refine (newReader_any _ _ B bs _ h hB hb hl hc).mono ?_
  rintro e w1 ⟨rfl, h1, hb1, -⟩
  go_wp2_with fail
  refine (one_any w.heap.size 0 _ _ _ [6, 7, 5, 8, 4, 3, 2, 1, 0, 9, 13] _ _ (by simp) (by simp) (by omega) (h1.below ((Below.refl _ _).alloc h1.lt _)) (rd_new w1 _ _) (by intro b o e; injection e with e; injection e with e; have := h1.lt; omega)).mono ?_
  rintro e w2 ⟨k, hk, rfl, h2, hg2, -⟩
  have hx : ∀ x ∈ ([6, 7, 5, 8, 4, 3, 2, 1, 0, 9, 13] : List Int), 0 ≤ x ∧ x ≤ 16 := by intro x hx; simp only [List.mem_cons, List.not_mem_nil, or_false] at hx; omega
  have hx2 := hx _ (List.getElem_mem hk)
  obtain ⟨x2, hxx⟩ : ∃ x, x = ([6, 7, 5, 8, 4, 3, 2, 1, 0, 9, 13] : List Int)[k] := ⟨_, rfl⟩
  rw [← hxx] at hx2 ⊢
  clear hx hxx hk
  have hz2 : w.heap.size < w2.heap.size := h2.lt
  have hb2 : Below w.heap.size w w2 := (hb1.alloc hb1.size _).grown hg2 (hb1.alloc hb1.size _).size fun k hk => by injection hk with hk; omega
  clear hg2
  go_wp2_with fail
  refine (partsOf_any w.heap.size 1 x2 _ _ hx2.1 hx2.2 (by omega) h2).mono ?_
  rintro e w3 ⟨a', c', M, rfl, ho, hs, ⟨q', hq', h3⟩, hg3⟩
  have hz3 := hg3.size
  have hb3 : Below w.heap.size w w3 := hb2.grown hg3 hb2.size fun k hk => by injection hk with hk; omega
  clear hg3
  go_wp2_with fail
  refine (bent_any w.heap.size q' w2.heap.size _ _ M _ _ (by omega) h3 hs ho hz2 hz3).mono ?_
  rintro e w4 ⟨a4, c4, M4, rfl, ho4, hs4, -, hb4⟩
  go_wp2_with fail
  go_ret
  exact ⟨a4, c4, M4, rfl, ho4.lower hb2.size, hs4, hb3.trans (hb4.below (Nat.le_of_lt hz2))⟩
theorem DrawCoversUp_any (a : Option Addr) (c B : Nat) (bs : List Int) (w : World) (h : Rd w B a (bs.map (Value.int .u8))) (hB : B ≤ w.heap.size) (hb : ∀ n ∈ bs, (Lit.int .u8 n).wf = true) (hl : bs.length ≤ 1048576) (hc : bs.length ≤ c) :
    Calls Try.prog 38 #[.slice a bs.length c] w fun e w' => ∃ a' c' M, e = .returned (.slice a' M.length c') ∧ Own w' w.heap.size w'.heap.size 3 (.slice a' M.length c') (ints M) ∧ Small M ∧ Below w.heap.size w w' := by
  go_enter Try.func38, Try.ntmps38
  go_wp2_with fail
  refine (DrawCoversOf_any _ _ B bs _ h hB hb hl hc).mono ?_
  rintro e w1 ⟨a1, c1, M1, rfl, ho, hs, hb1⟩
  go_wp2_with fail
  go_ret
  exact ⟨a1, c1, M1, rfl, ho, hs, hb1⟩
theorem DrawGrowthsOf_any (a : Option Addr) (c B : Nat) (bs : List Int) (w : World) (h : Rd w B a (bs.map (Value.int .u8))) (hB : B ≤ w.heap.size) (hb : ∀ n ∈ bs, (Lit.int .u8 n).wf = true) (hl : bs.length ≤ 1048576) (hc : bs.length ≤ c) :
    Calls Try.prog 26 #[.slice a bs.length c] w fun e w' => ∃ a' c' M, e = .returned (.slice a' M.length c') ∧ Own w' w.heap.size w'.heap.size 3 (.slice a' M.length c') (ints M) ∧ Small M ∧ Below w.heap.size w w' := by
  go_enter Try.func26, Try.ntmps26
  go_wp2_with fail
  refine (newReader_any _ _ B bs _ h hB hb hl hc).mono ?_
  rintro e w1 ⟨rfl, h1, hb1, -⟩
  go_wp2_with fail
  refine (one_any w.heap.size 0 _ _ _ [6, 7, 5, 8, 4, 3, 9, 2, 1, 0, 13] _ _ (by simp) (by simp) (by omega) (h1.below ((Below.refl _ _).alloc h1.lt _)) (rd_new w1 _ _) (by intro b o e; injection e with e; injection e with e; have := h1.lt; omega)).mono ?_
  rintro e w2 ⟨k, hk, rfl, h2, hg2, -⟩
  have hx : ∀ x ∈ ([6, 7, 5, 8, 4, 3, 9, 2, 1, 0, 13] : List Int), 0 ≤ x ∧ x ≤ 16 := by intro x hx; simp only [List.mem_cons, List.not_mem_nil, or_false] at hx; omega
  have hx2 := hx _ (List.getElem_mem hk)
  obtain ⟨x2, hxx⟩ : ∃ x, x = ([6, 7, 5, 8, 4, 3, 9, 2, 1, 0, 13] : List Int)[k] := ⟨_, rfl⟩
  rw [← hxx] at hx2 ⊢
  clear hx hxx hk
  have hz2 : w.heap.size < w2.heap.size := h2.lt
  have hb2 : Below w.heap.size w w2 := (hb1.alloc hb1.size _).grown hg2 (hb1.alloc hb1.size _).size fun k hk => by injection hk with hk; omega
  clear hg2
  go_wp2_with fail
  refine (partsOf_any w.heap.size 1 x2 _ _ hx2.1 hx2.2 (by omega) h2).mono ?_
  rintro e w3 ⟨a', c', M, rfl, ho, hs, ⟨q', hq', h3⟩, hg3⟩
  have hz3 := hg3.size
  have hb3 : Below w.heap.size w w3 := hb2.grown hg3 hb2.size fun k hk => by injection hk with hk; omega
  clear hg3
  go_wp2_with fail
  refine (bent_any w.heap.size q' w2.heap.size _ _ M _ _ (by omega) h3 hs ho hz2 hz3).mono ?_
  rintro e w4 ⟨a4, c4, M4, rfl, ho4, hs4, -, hb4⟩
  go_wp2_with fail
  go_ret
  exact ⟨a4, c4, M4, rfl, ho4.lower hb2.size, hs4, hb3.trans (hb4.below (Nat.le_of_lt hz2))⟩
end Go.Proofs.Ytmnlmahjgmhdiaa
