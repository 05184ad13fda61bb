/-
  Walks of the program: the hooks of a diagram. Walks: the hooks of parts. Walks of the model: the parts right above some; sizes of both answers. Walks of the model: ChainDown. Walks: the draws of chapter 4. Walks: a bent list of parts: what it leaves alone.
-/
import Derived.Test.YtmojonpjgaidgaaZchain1
import Derived.Test.YtmojonpjgaidgaaZchain2
import Derived.Test.YtmojonpjgaidgaaZchain3
import Derived.Test.YtmojonpjgaidgaaZchain4
import Derived.Test.YtmojonpjgaidgaaZchain5
import Derived.Test.YtmojonpjgaidgaaZchain6
import Derived.Test.YtmojonpjgaidgaaZchain7
import Derived.Test.YtmojonpjgaidgaaZchain8
import Derived.Test.YtmojonpjgaidgaaZchain9
import Derived.Test.YtmojonpjgaidgaaZchain10
import Derived.Deep.LoopGhost
import Derived.WalkMore
import Derived.Deep.RegionHeld3
namespace Go.Proofs.Ytmojonpjgaidgaa
open Go.RowKit NP
set_option maxRecDepth 8000
set_option linter.unusedVariables false
set_option linter.unusedSimpArgs false
/-- one list of a list of lists grown in a block behind all others -/
theorem OwnLL.row {w w' : World} {lo hi : Nat} {eo e : TypeId} {g n c : Nat} {vs : List Value} {LL : List (List Int)} {k : Nat} {u : Value} {L : List Int} (h : OwnLL w lo hi eo e (.slice (some ⟨g, 0, none⟩) n c) vs LL) (hc : c = vs.length) (hm : vs.length ≤ maxLen)
    (hw : w.heap.size ≤ w'.heap.size) (h1 : Blk w' g eo (vs.set k u).toArray) (h2 : ∀ j, lo ≤ j → j < hi → j ≠ g → w'.heap[j]? = w.heap[j]?) (hu : Own w' hi w'.heap.size e u (ints L)) (hk : k < vs.length) :
    OwnLL w' lo w'.heap.size eo e (.slice (some ⟨g, 0, none⟩) n c) (vs.set k u) (LL.set k L) := by
  have hlg : lo ≤ g := h.outer.base g rfl
  have hgh : g < hi := h.outer.lt g rfl
  have hn : n = vs.length := by
    obtain ⟨g2, c2, e1, -⟩ := h.outer.at_ hk
    injection e1
  have ho := h1.own hlg (by rw [List.length_set]; exact hm)
  rw [List.length_set, ← hn] at ho
  have hcn : c = n := by rw [hc, hn]
  subst hcn
  have old : ∀ (j : Nat) x, j ≠ k → (vs.set k u)[j]? = some x → vs[j]? = some x := fun j x hj hx => by rw [List.getElem?_set_ne (Ne.symm hj)] at hx; exact hx
  have new : ∀ x, (vs.set k u)[k]? = some x → x = u := fun x hx => by rw [List.getElem?_set_self hk] at hx; injection hx with hx; exact hx.symm
  have oldb : ∀ (j : Nat) x g', vs[j]? = some x → x.ownBlock = some g' → g' < hi ∧ lo ≤ g' ∧ g' ≠ g := fun j x g' hx hg' => by
    have hj := (List.getElem?_eq_some_iff.1 hx).1
    have hjl : j < LL.length := by rw [← h.len]; exact hj
    have hi' := h.inner j x LL[j] hx (List.getElem?_eq_getElem hjl)
    exact ⟨hi'.lt g' hg', hi'.base g' hg', fun e => h.apartO j x g' hx hg' (by rw [e]; rfl)⟩
  refine ⟨ho, by rw [List.length_set, List.length_set, h.len], fun j x M hx hM => ?_, fun j x g' hx hg' => ?_, fun j i x y g' hx hy hgx hgy => ?_⟩
  · by_cases hj : j = k
    · subst hj
      rw [new x hx]
      rw [List.getElem?_set_self (by rw [← h.len]; exact hk)] at hM
      injection hM with hM
      subst hM
      exact hu.lower (by omega)
    · have hx' := old j x hj hx
      rw [List.getElem?_set_ne (Ne.symm hj)] at hM
      have hin := h.inner j x M hx' hM
      exact (hin.keep hw fun g' hg' => by
        have := oldb j x g' hx' hg'
        exact h2 g' this.2.1 this.1 this.2.2).more
  · by_cases hj : j = k
    · subst hj
      rw [new x hx] at hg'
      have := hu.base g' hg'
      intro e
      have e2 : g = g' := by simpa [Value.ownBlock] using e
      omega
    · have := oldb j x g' (old j x hj hx) hg'
      intro e
      have e2 : g = g' := by simpa [Value.ownBlock] using e
      omega
  · by_cases hj : j = k <;> by_cases hi2 : i = k
    · omega
    · subst hj
      rw [new x hx] at hgx
      have h3 := hu.base g' hgx
      have h4 := oldb i y g' (old i y hi2 hy) hgy
      omega
    · subst hi2
      rw [new y hy] at hgy
      have h3 := hu.base g' hgy
      have h4 := oldb j x g' (old j x hj hx) hgx
      omega
    · exact h.apart j i x y g' (old j x hj hx) (old i y hi2 hy) hgx hgy
/-- the hooks of the cells of one part, the first k of them -/
def hkR (P : List Int) (i k : Nat) : List Int := (List.range k).map fun (j : Nat) => P.getD i 0 - (j : Int) + (conj P).getD j 0 - (i : Int) - 1
def hkL (P : List Int) (i : Nat) : List (List Int) := (List.range i).map fun (j : Nat) => hkR P j (P.getD j 0).toNat
theorem hkR_next (P : List Int) (i k : Nat) : hkR P i (k + 1) = hkR P i k ++ [P.getD i 0 - (k : Int) + (conj P).getD k 0 - (i : Int) - 1] := by unfold hkR; rw [List.range_succ, List.map_append]; rfl
theorem hkL_next (P : List Int) (i : Nat) : hkL P (i + 1) = hkL P i ++ [hkR P i (P.getD i 0).toNat] := by unfold hkL; rw [List.range_succ, List.map_append]; rfl
theorem hkR_len (P : List Int) (i k : Nat) : (hkR P i k).length = k := by simp [hkR]
theorem hkL_len (P : List Int) (i : Nat) : (hkL P i).length = i := by simp [hkL]
theorem pad_getDH {L : List Int} (h : L.length ≤ 16) (i : Nat) : (pad L).getD i 0 = L.getD i 0 := by
  unfold pad
  by_cases hi : i < L.length
  · simp [List.getD_eq_getElem?_getD, List.getElem?_append_left hi]
  · simp only [List.getD_eq_getElem?_getD, List.getElem?_append_right (Nat.le_of_not_lt hi), List.getElem?_replicate, List.getElem?_eq_none (Nat.le_of_not_lt hi)]
    split <;> rfl
theorem cnt_padH {M : List Int} (hM : valid M = true) : cntD (pad M) = M.length := by
  have hbd := valid_bd hM
  have hlen : M.length ≤ 16 := hbd.2.2.2
  unfold cntD
  refine ff_eq (fun j hj => ?_) hlen ?_
  · have h1 := preS_of_valid hM j hj hj
    rw [List.getD_eq_getElem?_getD, List.getElem?_eq_getElem (by rw [pad_len hlen]; omega), Option.getD_some, pad_get hlen hj]
    simp; omega
  · rcases Nat.lt_or_ge M.length 16 with h | h
    · right
      rw [List.getD_eq_getElem?_getD, List.getElem?_eq_getElem (by rw [pad_len hlen]; omega), Option.getD_some, pad_get0 hlen (Nat.le_refl _) h]
      simp
    · left; omega
theorem Own.blkN {w : World} {lo hi : Nat} {e : TypeId} {g n : Nat} {vs : List Value} (h : Own w lo hi e (.slice (some ⟨g, 0, none⟩) n n) vs) (hn : vs.length = n) : Blk w g e vs.toArray := by
  rcases h.row.2 with ⟨h1, _⟩ | ⟨g', cap, cur, h1, _, hb, _, _, hs, ht⟩
  · cases h1
  · cases h1
    have e1 : cur = vs.toArray := by
      apply Array.toList_inj.1
      rw [hn, List.take_of_length_le (by simp; omega)] at ht
      simpa using ht
    rw [← e1]
    exact hb
theorem hk_set (P : List Int) (i n : Nat) (hi : i < n) : (hkL P i ++ List.replicate (n - i) []).set i (hkR P i (P.getD i 0).toNat) = hkL P (i + 1) ++ List.replicate (n - (i + 1)) [] := by
  rw [List.set_append_right _ _ (by rw [hkL_len]; omega), hkL_len, Nat.sub_self, show n - i = (n - (i + 1)) + 1 by omega, List.replicate_succ, List.set_cons_zero, hkL_next, List.append_assoc]
  rfl
theorem T_intH : (Try.prog.info? 3).map (fun i => (i.zero, i.size, i.bytes)) = some (some (.int .i64 0), 1, 8) := by kernel_rfl
end Go.Proofs.Ytmojonpjgaidgaa
namespace Go.Proofs.Ytmojonpjgaidgaa
open Go.RowKit NP
set_option maxRecDepth 8000
set_option linter.unusedVariables false
set_option linter.unusedSimpArgs false
def hkF (P : List Int) : List (List Int) := if valid P then hkL P P.length else []
theorem hkF_yes {P : List Int} (h : valid P = true) : hkF P = hkL P P.length := by simp [hkF, h]
theorem hkF_no {P : List Int} (h : valid P = false) : hkF P = [] := by simp [hkF, h]
theorem le_headH {L : List Int} (h : valid L = true) (i : Nat) (hi : i < L.length) : L[i] ≤ L.headD 0 := head_ge h _ (List.getElem_mem hi)
theorem op_append {P : Program} {o : Oper} {a : Act} {w w' : World} {K : Act → World → Prop} {Q : Exit → Act → World → Prop} {v v' : Value} {A : Option Addr} {m c : Nat} (s x : Operand) (t : TypeId)
    (ho : o.op = .call { callee := .builtin .append, args := #[s, x], argTypes := #[t, t] }) (hs : a.eval s = v) (hx : a.eval x = .slice A m c)
    (hrun : (Builtin.append_ #[t, t] o.type #[v, .slice A m c]).run P w = .ok v' w') (hK : K (a.put o.dst v') w') : o.wp P a w K Q := by
  unfold Oper.wp execOp
  simp only [ho, resolve, invoke, builtin, Sem.run_bind, Sem.run_pure, Result.andThen_ok, List.map_toArray, List.map_cons, List.map_nil, hs, hx]
  rw [hrun]
  exact hK
theorem OwnLL.aboveH {w w' : World} {lo hi lox hix : Nat} {eo e ex : TypeId} {v vx : Value} {vs vxs : List Value} {LL : List (List Int)} (h : OwnLL w lo hi eo e v vs LL) (hx : Own w lox hix ex vx vxs) (hg : w.grownBy w' vx.ownBlock) (hd : hix ≤ lo) : OwnLL w' lo hi eo e v vs LL :=
  ⟨h.outer.above hx hg hd, h.len, fun k u L hu hL => (h.inner k u L hu hL).above hx hg hd, h.apartO, h.apart⟩
theorem cntLL_leH (b : Nat) : ∀ LL : List (List Int), (∀ L ∈ LL, L.length ≤ b) → cntLL LL ≤ LL.length * b := by
  intro LL
  induction LL with
  | nil => intro _; simp [cntLL]
  | cons L LL ih =>
    intro h
    have h1 := ih fun M hM => h M (List.mem_cons_of_mem _ hM)
    have h2 := h L (List.mem_cons_self)
    unfold cntLL at *
    rw [List.map_cons, List.sum_cons, List.length_cons, Nat.succ_mul]
    omega
theorem hkF_rows (P : List Int) : (hkF P).length ≤ 16 ∧ ∀ L ∈ hkF P, L.length ≤ 16 := by
  cases hv : valid P with
  | false => rw [hkF_no hv]; simp
  | true =>
    have hl16 := (valid_bd hv).2.2.2
    rw [hkF_yes hv, hkL_len]
    refine ⟨hl16, fun L hL => ?_⟩
    unfold hkL at hL
    obtain ⟨j, hj, rfl⟩ := List.mem_map.1 hL
    have hj := List.mem_range.1 hj
    rw [hkR_len]
    have h3 := pad_nonneg hv j (by rw [pad_len hl16]; omega)
    rw [pad_get hl16 hj] at h3
    have e : P.getD j 0 = P[j] := by simp [List.getD_eq_getElem?_getD, hj]
    rw [e]
    omega
theorem hkF_cnt (P : List Int) : cntLL (hkF P) ≤ 256 := by
  have h := hkF_rows P
  have h1 := cntLL_leH 16 (hkF P) h.2
  have h2 := Nat.mul_le_mul_right 16 h.1
  omega
end Go.Proofs.Ytmojonpjgaidgaa
namespace Go.Proofs.Ytmojonpjgaidgaa
open Go.RowKit NP
set_option maxRecDepth 8000
set_option linter.unusedVariables false
set_option linter.unusedSimpArgs false
attribute [local go_sem ↓] Go.wp_at_zero Go.wp_at_succ
/-- readable lists of lists, with their bounds -/
structure RdH (w : World) (lo hi : Nat) (a : Option Addr) (LL : List (List Int)) : Prop where
  rdF : RdLF w lo hi a LL
  le : hi ≤ w.heap.size
theorem RdH.below {w w' : World} {lo hi : Nat} {a : Option Addr} {LL : List (List Int)} (h : RdH w lo hi a LL) (hb : Below hi w w') : RdH w' lo hi a LL := ⟨h.rdF.below hb, Nat.le_trans h.le hb.size⟩
theorem RdH.rd {w : World} {lo hi : Nat} {a : Option Addr} {LL : List (List Int)} (h : RdH w lo hi a LL) : RdLL w hi a LL := h.rdF.rd
theorem sumQ_tab : ((List.range 13).all fun n => (allQ n n n).all fun L => sumL L == (n : Int)) = true := by decide +kernel
theorem mem_sumQ {n : Nat} (hn : n ≤ 12) {L : List Int} (h : L ∈ allQ n n n) : sumL L = (n : Int) := by
  have h1 := sumQ_tab
  rw [List.all_eq_true] at h1
  have h2 := h1 n (List.mem_range.2 (by omega))
  rw [List.all_eq_true] at h2
  exact eq_of_beq (h2 L h)
theorem cvF_ok (P : List Int) : (cvF P).length ≤ 1000 ∧ ∀ L ∈ cvF P, valid L = true ∧ L.length ≤ 16 ∧ sumL L = sumL P := by
  unfold cvF
  split
  · rename_i h
    simp only [Bool.and_eq_true, decide_eq_true_eq] at h
    have hs := valid_bd h.1
    refine ⟨Nat.le_trans (List.length_filter_le _ _) (allQ_len (by omega)), fun L hL => ?_⟩
    have hm := (List.mem_filter.1 hL).1
    have := (allQ_ok (by omega) L hm).1
    have h2 := mem_sumQ (by omega) hm
    exact ⟨this, (valid_bd this).2.2.2, by omega⟩
  · simp
theorem cuF_ok (P : List Int) : (cuF P).length ≤ 1000 ∧ ∀ L ∈ cuF P, valid L = true ∧ L.length ≤ 16 ∧ sumL L = sumL P := by
  unfold cuF
  split
  · rename_i h
    simp only [Bool.and_eq_true, decide_eq_true_eq] at h
    have hs := valid_bd h.1
    refine ⟨Nat.le_trans (List.length_filter_le _ _) (allQ_len (by omega)), fun L hL => ?_⟩
    have hm := (List.mem_filter.1 hL).1
    have := (allQ_ok (by omega) L hm).1
    have h2 := mem_sumQ (by omega) hm
    exact ⟨this, (valid_bd this).2.2.2, by omega⟩
  · simp
theorem cvF_rows (P : List Int) : (cvF P).length ≤ 1000 ∧ ∀ L ∈ cvF P, L.length ≤ 16 := ⟨(cvF_ok P).1, fun L hL => ((cvF_ok P).2 L hL).2.1⟩
theorem cuF_rows (P : List Int) : (cuF P).length ≤ 1000 ∧ ∀ L ∈ cuF P, L.length ≤ 16 := ⟨(cuF_ok P).1, fun L hL => ((cuF_ok P).2 L hL).2.1⟩
theorem cvF_cnt (P : List Int) : cntLL (cvF P) ≤ 16000 := by
  have h := cvF_rows P
  have h1 := cntLL_leH 16 (cvF P) h.2
  have h2 := Nat.mul_le_mul_right 16 h.1
  omega
theorem cuF_cnt (P : List Int) : cntLL (cuF P) ≤ 16000 := by
  have h := cuF_rows P
  have h1 := cntLL_leH 16 (cuF P) h.2
  have h2 := Nat.mul_le_mul_right 16 h.1
  omega
end Go.Proofs.Ytmojonpjgaidgaa
namespace Go.Proofs.Ytmojonpjgaidgaa
open Go.RowKit Go.Shelf NP
set_option maxRecDepth 8000
set_option linter.unusedVariables false
set_option linter.unusedSimpArgs false
attribute [local go_sem ↓] Go.wp_at_zero Go.wp_at_succ
/-- a row that can be read, beside a list of rows that grows -/
def RowN (w : World) (v : Value) (p : Value × List Int) : Prop := ∃ a c, p.1 = .slice a p.2.length c ∧ Rd w w.heap.size a (ints p.2) ∧ ∀ g, v.ownBlock = some g → p.2 ≠ [] → ∀ q, a = some q → q.block ≠ g
def RowC (p : Value × List Int) : Prop := ∃ a c, p.1 = .slice a p.2.length c ∧ p.2.length ≤ c
theorem RowN.below {w w' : World} {v : Value} {p : Value × List Int} (h : RowN w v p) (hb : Below w.heap.size w w') : RowN w' v p := by
  obtain ⟨a, c, h1, h2, h4⟩ := h
  exact ⟨a, c, h1, (h2.below hb).more hb.size, h4⟩
theorem RowN.grown {w w' : World} {v v' : Value} {p : Value × List Int} (h : RowN w v p) (hg : w.grownBy w' v.ownBlock) (hat : v'.ownBlock = v.ownBlock ∨ v'.ownBlock = some w.heap.size) : RowN w' v' p := by
  obtain ⟨a, c, h1, h2, h4⟩ := h
  have key : p.2 ≠ [] → ∃ b o, a = some ⟨b, o, none⟩ ∧ b < w.heap.size ∧ (∀ g, v.ownBlock = some g → b ≠ g) ∧ ∀ k v, (ints p.2)[k]? = some v → w.cell? ⟨b, o + k, none⟩ = some v := fun hne => by
    obtain ⟨b, o, e, hb, hc⟩ := h2 (by intro e; exact hne (by simpa [ints] using e))
    exact ⟨b, o, e, hb, fun g hg => h4 g hg hne _ e, hc⟩
  refine ⟨a, c, h1, fun hne => ?_, fun g hg' hne q hq => ?_⟩
  · obtain ⟨b, o, e, hb, hn, hc⟩ := key (by rintro e; exact hne (by rw [e]; rfl))
    refine ⟨b, o, e, Nat.lt_of_lt_of_le hb hg.size, fun k v hv => ?_⟩
    rw [World.cell?_of_block (w := w) (hg.block b hb (fun e => hn b e.symm rfl))]
    exact hc k v hv
  · obtain ⟨b, o, e, hb, hn, hc⟩ := key hne
    rw [hq] at e
    injection e with e
    rw [e]
    show b ≠ g
    rcases hat with h5 | h5
    · rw [h5] at hg'; exact hn g hg'
    · rw [h5] at hg'; injection hg' with hg'; omega
/-- the first one that does -/
theorem nx_found {P Q : List Int} (h : valid P = true) (h12 : sumL P ≤ 12) {i : Nat} (hi : i < (cvF P).length) (hn : ∀ j (hj : j < (cvF P).length), j < i → dom (cvF P)[j] Q = false) (hy : dom (cvF P)[i] Q = true) : nxF P Q = some (cvF P)[i] := by
  rw [nxF_cv Q h h12, List.find?_eq_some_iff_getElem]
  exact ⟨hy, i, hi, rfl, fun j hj => by simp [hn j (by omega) hj]⟩
theorem nx_lost {P Q : List Int} (h : valid P = true) (h12 : sumL P ≤ 12) (hn : ∀ j (hj : j < (cvF P).length), dom (cvF P)[j] Q = false) : nxF P Q = none := by
  rw [nxF_cv Q h h12, List.find?_eq_none]
  intro X hX
  obtain ⟨j, hj, rfl⟩ := List.getElem_of_mem hX
  rw [hn j hj]; decide
/-- a chain begins with its first one -/
theorem chD_cons (P Q : List Int) : ∃ T, chD P Q = P :: T := by
  unfold chD
  cases mu P with
  | zero => exact ⟨[], rfl⟩
  | succ m => exact ⟨_, rfl⟩
set_option maxRecDepth 100000 in
set_option maxHeartbeats 1000000 in
theorem sChainDown_any (a b : Option Addr) (ca cb Ba Bb : Nat) (P Q : List Int) (w : World) (h : Rd w Ba a (ints P)) (hq : Rd w Bb b (ints Q)) (hBa : Ba ≤ w.heap.size) (hBb : Bb ≤ w.heap.size) (hl : P.length ≤ 4611686018427387904) (hlq : Q.length ≤ 4611686018427387904) :
    Calls Try.prog 9 #[.slice a P.length ca, .slice b Q.length cb] w fun e w' => ∃ a' c', e = .returned (.tuple #[.slice a' (cdF P Q).length c', .bool (cdB P Q)]) ∧ RdLL w' w'.heap.size a' (cdF P Q) ∧ Below w.heap.size w w' := by
  by_cases hok : dom P Q = true ∧ sumL P ≤ 12
  · obtain ⟨hd, h12⟩ := hok
    have hp := (dom_iff.1 hd).1
    have hq2 := (dom_iff.1 hd).2.1
    rw [cdB_yes hd h12, cdF_yes hd h12]
    obtain ⟨i0, hi, hz0, hz1', hz2'⟩ := T_int'
    obtain ⟨i1, hj, hy0, hy1, hy2⟩ := info_parts T_ints3
    have HP := Lib.hid hp
    have HQ := Lib.hid hq2
    have HD := Lib.hid hd
    have HF := Lib.hid (valid_fits hp)
    have hl16 := (valid_bd hp).2.2.2
    have hl16q := (valid_bd hq2).2.2.2
    have HLI : Hid ((ints P).length = P.length) := Lib.hid (by simp)
    have HLN : Hid ((chD P Q).length ≤ 1001) := Lib.hid (chD_ok Q hp h12).1
    have h12' : ¬ 12 < sumL P := by omega
    clear hp hq2 hd
    go_enter Try.func9, Try.ntmps9
    go_wp2_with fail
    refine (validParts_any _ _ _ P _ h (by omega)).mono ?_
    rintro e w1 ⟨rfl, hd1⟩
    rw [HP.out]
    have h1 := h.dr hd1
    have hq1 := hq.dr hd1
    have hb1 : Below w.heap.size w w1 := Dr.below hd1 _
    have hz1 := hb1.size
    go_wp2_with fail
    refine (validParts_any _ _ _ Q _ hq1 (by omega)).mono ?_
    rintro e w2 ⟨rfl, hd2⟩
    rw [HQ.out]
    have h2 := h1.dr hd2
    have hq2 := hq1.dr hd2
    have hb2 : Below w.heap.size w w2 := hb1.trans (Dr.below hd2 _)
    have hz2 := hb2.size
    go_wp2_with fail
    refine (sum_any _ _ _ P _ h2 HF.out (by omega)).mono ?_
    rintro e w' ⟨rfl, rfl⟩
    have hdec0 : decide (12 < sumL P) = false := decide_eq_false (by omega)
    go_wp2_with fail
    refine (sdominates_any _ _ _ _ _ _ P Q _ h2 hq2 (by omega) (by omega) HP.out HQ.out).mono ?_
    rintro e w' ⟨rfl, rfl⟩
    rw [HD.out]
    go_wp2_with (at_builtin; refine wpList_append_o _ rfl (.tmp 29) (.tmp 30) 22 rfl w2.heap.size (w2.heap.size + 1) 3 i0 (.int .i64 0) 8 Try.underlying22 hi hz0 hz1' hz2' rfl _ [] rfl (own_empty1 w2 _ (Nat.le_refl _)) Ba a P.length ca (ints P) rfl (h2.below ((Below.refl _ _).alloc (by omega) _)) HLI.out.symm (ints_one _) (by simp only [List.length_nil]; unfold maxLen; omega) (by simp only [List.length_nil]; omega) (by rw [World.size_alloc]; omega) ?_; intro v3 w3 ho3 hg3 hat3; replace ho3 : Own w3 w2.heap.size w3.heap.size 3 v3 (ints P) := ho3; obtain ⟨a3, c3, hv3⟩ := ho3.form; rw [HLI.out] at hv3; subst hv3)
    have hb3 : Below w2.heap.size w2 w3 := ((Below.refl _ _).alloc (Nat.le_refl _) _).grown hg3 (by rw [World.size_alloc]; omega) (own_empty1 w2 3 (Nat.le_refl _)).base
    have hz3 := hb3.size
    have hbw3 : Below w.heap.size w w3 := hb2.trans (hb3.mono hz2)
    obtain ⟨w4, hw4⟩ : ∃ w4, w3.alloc (.cells #[.slice a3 P.length c3] 22) = w4 := ⟨_, rfl⟩
    have hs4 : Own w4 w3.heap.size w4.heap.size 22 (.slice (some ⟨w3.heap.size, 0, none⟩) 1 1) [.slice a3 P.length c3] := by rw [← hw4]; exact (Own.single w3 _ _).more
    have hb4 : Below w3.heap.size w3 w4 := by rw [← hw4]; exact (Below.refl _ _).alloc (Nat.le_refl _) _
    have hz4 := hb4.size
    have hbw4 : Below w.heap.size w w4 := hbw3.trans (hb4.mono (by omega))
    have ho4 := ho3.below hb4
    have hR0 : RowN w4 (.slice (some ⟨w3.heap.size, 0, none⟩) 1 1) (.slice a3 P.length c3, P) := by
      refine ⟨a3, c3, rfl, ho4.rd.more (by omega), fun g hg hne q hq0 e => ?_⟩
      have e1 : w3.heap.size = g := Option.some.inj hg
      subst hq0
      have := ho4.lt q.block (by cases q with | mk b o m => rfl)
      omega
    have hR1 : RowN w4 (.slice (some ⟨w3.heap.size, 0, none⟩) 1 1) (.slice a P.length ca, P) := by
      refine ⟨a, ca, rfl, (h.below (hbw4.mono hBa)).more (by omega), fun g hg hne q hq0 e => ?_⟩
      have e1 : w3.heap.size = g := Option.some.inj hg
      obtain ⟨b', o', e2, hb', -⟩ := h (by intro e3; exact hne (by simpa [ints] using e3))
      rw [hq0] at e2; injection e2 with e2; subst e2
      have : b' = g := e
      omega
    have hC0 : RowC (.slice a3 P.length c3, P) := by
      refine ⟨a3, c3, rfl, ?_⟩
      rcases Nat.eq_zero_or_pos P.length with h0 | h0
      · show P.length ≤ c3; omega
      · obtain ⟨g, c5, e5, hc5⟩ := ho4.formN (by rw [HLI.out]; exact h0)
        injection e5 with _ _ e5
        rw [HLI.out] at hc5
        show P.length ≤ c3
        omega
    obtain ⟨T0, hT0⟩ := chD_cons P Q
    have HT0 : Hid (∃ T, chD P Q = P :: T ∧ [P] ++ T = chD P Q) := Lib.hid ⟨T0, hT0, hT0.symm⟩
    have HR0 := Lib.hid hR0
    have HR1 := Lib.hid hR1
    have HC0 := Lib.hid hC0
    have HS4 := Lib.hid hs4
    have HW4 := Lib.hid hw4
    clear ho3 ho4 hg3 hat3 hR0 hR1 hC0 hs4 hw4 h1 h2 hq1 hq2 hd1 hd2 hT0 hb1 hb2 hb3 hb4 hbw3
    go_wp2_with fail
    rw [HW4.out]
    go_loopw [6, 7] (fun vo vn wr => ∃ (R : List Int) (ps : List (Value × List Int)) (ao : Option Addr) (co : Nat) (an : Option Addr) (cn : Nat), vo = .slice ao ps.length co ∧ vn = .slice an R.length cn ∧ Hid (valid R = true ∧ sumL R = sumL P ∧ dom R Q = true) ∧ Own wr w.heap.size wr.heap.size 22 (.slice ao ps.length co) (ps.map Prod.fst) ∧ Hid (∀ p ∈ ps, RowN wr (.slice ao ps.length co) p ∧ RowC p) ∧ Hid (RowN wr (.slice ao ps.length co) (.slice an R.length cn, R)) ∧ Hid (∃ T, chD R Q = R :: T ∧ ps.map Prod.snd ++ T = chD P Q) ∧ Below w.heap.size w wr) (fun vo _ _ => 2000 - lenOf vo)
    case atStart => exact ⟨P, [(.slice a3 P.length c3, P)], some ⟨w3.heap.size, 0, none⟩, 1, a, ca, rfl, rfl, Lib.hid ⟨HP.out, rfl, HD.out⟩, HS4.out.lower (by omega), Lib.hid (fun p hp => by rw [List.mem_singleton.1 hp]; exact ⟨HR0.out, HC0.out⟩), HR1, HT0, hbw4⟩
    case round =>
      obtain ⟨R, ps, ao, co, an, cn, rfl, rfl, HR, hown, HPS, HNW, HT, hbw⟩ := hrel
      obtain ⟨wo, rfl⟩ : ∃ wx : World, wx = wr := ⟨_, rfl⟩
      have hzo := hbw.size
      have hl16R : R.length ≤ 16 := (valid_bd HR.out.1).2.2.2
      have HRD : Hid (Rd wo wo.heap.size an (ints R)) := Lib.hid (by
        obtain ⟨a', c', e, hr, -⟩ := HNW.out
        injection e with e _ _
        rw [e]; exact hr)
      have HQD : Hid (Rd wo Bb b (ints Q)) := Lib.hid (hq.below (hbw.mono hBb))
      have HPL : Hid (ps.length ≤ 1001) := Lib.hid (by
        obtain ⟨T, -, e⟩ := HT.out
        have h1 := HLN.out
        rw [← e, List.length_append, List.length_map] at h1
        omega)
      have HO := Lib.hid hown
      clear hown
      by_cases hRQ : R = Q
      · have HE := Lib.hid hRQ
        have hdec : decide (R = Q) = true := decide_eq_true hRQ
        clear hRQ
        go_wp2_with fail
        refine (sameL_any _ _ _ _ _ _ R Q (by omega) _ HRD.out HQD.out (by omega)).mono ?_
        rintro e w5 ⟨rfl, nn, rfl⟩
        rw [hdec]
        go_wp2_with fail
        go_ret2
        have e1 : ps.map Prod.snd = chD P Q := by
          obtain ⟨T, e2, e3⟩ := HT.out
          have e4 : chD R Q = [R] := by
            rw [HE.out]
            exact chD_end (nx_self HQ.out (by have := HR.out.2.1; rw [HE.out] at this; omega))
          rw [e4] at e2
          injection e2 with _ e2
          rw [← e2, List.append_nil] at e3
          exact e3
        rw [← e1]
        have hbd : Below wo.heap.size wo (wo.drewN nn) := (Dr.n wo nn).below _
        refine ⟨ao, co, by rw [List.length_map]; rfl, ⟨ps.map Prod.fst, (HO.out.dr (Dr.n wo nn)).rd.more (by show wo.heap.size ≤ _; exact Nat.le_refl _), by simp, fun k v L hv hL => ?_⟩, hbw.trans (hbd.mono hzo)⟩
        rw [List.getElem?_map] at hv hL
        obtain ⟨p, hp, rfl⟩ := Option.map_eq_some_iff.1 hv
        rw [hp] at hL
        obtain rfl : p.2 = L := by simpa using hL
        obtain ⟨⟨a', c', e5, hr5, -⟩, a6, c6, e6, hc6⟩ := HPS.out p (List.mem_of_getElem? hp)
        rw [e6] at e5
        injection e5 with e5 _ e7
        subst e5
        subst e7
        exact ⟨a6, c6, e6, hr5.below hbd, hc6⟩
      · have hdec : decide (R = Q) = false := decide_eq_false hRQ
        have h12R : sumL R ≤ 12 := by have := HR.out.2.1; omega
        obtain ⟨S, hnx⟩ := nx_ex h12R HR.out.2.2 hRQ
        have HNX := Lib.hid hnx
        have hcl := (cvF_ok R).1
        have HCR := Lib.hid (cvF_ok R).2
        clear hRQ hnx
        go_wp2_with fail
        refine (sameL_any _ _ _ _ _ _ R Q (by omega) _ HRD.out HQD.out (by omega)).mono ?_
        rintro e w5 ⟨rfl, nn, hw5⟩
        rw [hdec]
        have hb5 : Below wo.heap.size wo w5 := Dr.below ⟨nn, hw5⟩ _
        have hz5 := hb5.size
        have HRD5 := Lib.hid (HRD.out.below hb5)
        clear hw5
        go_wp2_with fail
        refine (sCoversOf_any _ _ _ R _ HRD5.out hz5 (by omega)).mono ?_
        rintro e w6 ⟨a6, c6, rfl, hr6, hb6⟩
        have hb56 : Below wo.heap.size wo w6 := hb5.trans (hb6.mono hz5)
        have hz6 := hb6.size
        obtain ⟨CC, hCC⟩ : ∃ CC, cvF R = CC := ⟨_, rfl⟩
        have HF1 : Hid (∀ (i : Nat) (hi : i < CC.length), (∀ j (hj : j < CC.length), j < i → dom CC[j] Q = false) → dom CC[i] Q = true → nxF R Q = some CC[i]) := Lib.hid (fun i hi hn hy => by subst hCC; exact nx_found HR.out.1 h12R hi hn hy)
        have HF2 : Hid (¬ ∀ j (hj : j < CC.length), dom CC[j] Q = false) := Lib.hid (fun hn => by subst hCC; have := nx_lost HR.out.1 h12R hn; rw [HNX.out] at this; cases this)
        rw [hCC] at hr6 hcl HCR ⊢
        have HR6 := Lib.hid hr6
        have HQ6 : Hid (Rd w6 Bb b (ints Q)) := Lib.hid (HQD.out.below (hb56.mono (by omega)))
        clear hr6 hb5 hCC
        go_wp2_with fail
        go_loopw [7, 9] (fun vn ii wr => ∃ i : Nat, i ≤ CC.length ∧ ii = .int .i64 (i : Int) ∧ vn = .slice an R.length cn ∧ w6 = wr ∧ Hid (∀ j (hj : j < CC.length), j < i → dom CC[j] Q = false)) (fun _ ii _ => CC.length - (intOf ii).toNat)
        case atStart => exact ⟨0, Nat.zero_le _, rfl, rfl, rfl, Lib.hid (fun j _ hj => by omega)⟩
        case round =>
          obtain ⟨i, hin, rfl, rfl, rfl, HN⟩ := hrel
          by_cases hlt : i < CC.length
          · have hlt' : (i : Int) < (CC.length : Int) := by omega
            obtain ⟨bb, oo, ar, cr, rfl, hlb, hbb, hcell, hrd, hlc, hloa⟩ := HR6.out.at_ hlt
            obtain ⟨hvX, hlX, hsX⟩ := HCR.out CC[i] (List.getElem_mem hlt)
            have HRX := Lib.hid hrd
            have HVX := Lib.hid hvX
            obtain ⟨d, hd⟩ : ∃ d, dom CC[i] Q = d := ⟨_, rfl⟩
            have HDX := Lib.hid hd
            clear hrd hvX hd
            go_wp2_with fail
            refine (sdominates_any _ _ _ _ _ _ CC[i] Q _ HRX.out HQ6.out (Nat.le_refl _) (by omega) HVX.out HQ.out).mono ?_
            rintro e w' ⟨rfl, rfl⟩
            rw [HDX.out]
            cases d with
            | false =>
              go_wp2_with fail
              go_roundw
              case rel => exact ⟨i + 1, by omega, by go_num, by first | rfl | trivial, by first | rfl | trivial, Lib.hid (fun j hj h1 => by
                rcases Nat.lt_or_ge j i with h3 | h3
                · exact HN.out j hj h3
                · obtain rfl : j = i := by omega
                  exact HDX.out)⟩
              case measure => simp [intOf] <;> omega
            | true =>
              have HNX2 : Hid (nxF R Q = some CC[i]) := Lib.hid (HF1.out i hlt HN.out HDX.out)
              go_wp2_with (at_builtin; refine wpList_append_o _ rfl (.tmp 56) (.tmp 58) 23 rfl w.heap.size wo.heap.size 22 i1 (.slice none 0 0) 24 Try.underlying23 hj hy0 hy1 hy2 rfl _ (ps.map Prod.fst) rfl ((HO.out.below hb56).alloc _) (w6.heap.size + 1) (some ⟨w6.heap.size, 0, none⟩) 1 1 [.slice ar CC[i].length cr] rfl (Rd.one w6 _ _) rfl (by intro u hu; rw [List.mem_singleton.1 hu]; rfl) (by rw [List.length_map]; unfold maxLen; have := HPL.out; omega) (by rw [List.length_map]; have := HPL.out; omega) (by rw [World.size_alloc]; omega) ?_; intro v7 w7 ho7 hg7 hat7)
              go_roundw
              case rel =>
                have hgb : ∀ g, (Value.slice ao ps.length co).ownBlock = some g → w.heap.size ≤ g := HO.out.base
                have hba : Below wo.heap.size wo (w6.alloc (.cells #[.slice ar CC[i].length cr] 22)) := hb56.alloc (by omega) _
                have hb7 : Below w.heap.size w w7 := (hbw.trans (hba.mono hzo)).grown hg7 (by rw [World.size_alloc]; omega) (fun g e => hgb g e)
                obtain ⟨a8, c8, e8⟩ := ho7.form
                have el : (ps.map Prod.fst ++ [Value.slice ar CC[i].length cr]).length = (ps ++ [(Value.slice ar CC[i].length cr, CC[i])]).length := by simp
                rw [el] at e8
                have em : ps.map Prod.fst ++ [Value.slice ar CC[i].length cr] = (ps ++ [(Value.slice ar CC[i].length cr, CC[i])]).map Prod.fst := by simp
                rw [em] at ho7
                subst e8
                have hsm := nx_some HR.out.1 h12R HNX2.out
                have hrow : RowN w6 (.slice ao ps.length co) (.slice ar CC[i].length cr, CC[i]) := by
                  refine ⟨ar, cr, rfl, HRX.out, fun g hg hne q hq0 e => ?_⟩
                  have h1 := HO.out.lt g hg
                  have h2 := hloa (by intro e3; exact hne (by simpa [ints] using e3)) q hq0
                  omega
                have hkeep : ∀ p, RowN wo (.slice ao ps.length co) p → RowN w7 (.slice a8 (ps ++ [(Value.slice ar CC[i].length cr, CC[i])]).length c8) p := fun p hp => ((hp.below hba)).grown hg7 hat7
                have hrow7 : RowN w7 (.slice a8 (ps ++ [(Value.slice ar CC[i].length cr, CC[i])]).length c8) (.slice ar CC[i].length cr, CC[i]) := (hrow.below ((Below.refl _ _).alloc (Nat.le_refl _) _)).grown hg7 hat7
                refine ⟨CC[i], ps ++ [(.slice ar CC[i].length cr, CC[i])], a8, c8, ar, cr, rfl, by first | rfl | trivial, Lib.hid ⟨hsm.2.1, by rw [hsm.2.2.1]; exact HR.out.2.1, hsm.2.2.2.1⟩, ho7, Lib.hid (fun p hp => ?_), Lib.hid hrow7, Lib.hid ?_, hb7⟩
                · rcases List.mem_append.1 hp with h1 | h1
                  · exact ⟨hkeep p (HPS.out p h1).1, (HPS.out p h1).2⟩
                  · rw [List.mem_singleton.1 h1]
                    exact ⟨hrow7, ar, cr, rfl, hlc⟩
                · obtain ⟨T, e1, e2⟩ := HT.out
                  have e3 := chD_step HR.out.1 h12R HNX2.out
                  obtain ⟨T2, e4⟩ := chD_cons CC[i] Q
                  refine ⟨T2, e4, ?_⟩
                  rw [e1, e4] at e3
                  injection e3 with _ e3
                  rw [List.map_append, List.append_assoc, ← e2, e3]
                  rfl
              case measure =>
                have h1 := HPL.out
                obtain ⟨a8, c8, e8⟩ := ho7.form
                have el : (ps.map Prod.fst ++ [Value.slice ar CC[i].length cr]).length = ps.length + 1 := by simp
                rw [el] at e8
                subst e8
                show 2000 - (ps.length + 1) < 2000 - ps.length
                omega
          · exact absurd (fun j hj => HN.out j hj (by omega)) HF2.out
  · have hc : cdB P Q = false := by
      unfold cdB
      cases hd : dom P Q with
      | false => rfl
      | true =>
        have h13 : ¬ sumL P ≤ 12 := fun h12 => hok ⟨hd, h12⟩
        simp [h13]
    have hf : cdF P Q = [] := by unfold cdF; rw [hc]; rfl
    rw [hc, hf]
    cases hp : valid P with
    | false =>
      have HP := Lib.hid hp
      clear hp hok hc hf
      go_enter Try.func9, Try.ntmps9
      go_wp2_with fail
      refine (validParts_any _ _ _ P _ h (by omega)).mono ?_
      rintro e w1 ⟨rfl, hd1⟩
      rw [HP.out]
      go_wp2_with fail
      go_ret2
      exact ⟨none, 0, rfl, (RdLF.nil w1 0 _).rd, Dr.below hd1 _⟩
    | true =>
      have HP := Lib.hid hp
      have HF := Lib.hid (valid_fits hp)
      have hl16 := (valid_bd hp).2.2.2
      clear hp
      cases hq2 : valid Q with
      | false =>
        have HQ := Lib.hid hq2
        clear hq2 hok hc hf
        go_enter Try.func9, Try.ntmps9
        go_wp2_with fail
        refine (validParts_any _ _ _ P _ h (by omega)).mono ?_
        rintro e w1 ⟨rfl, hd1⟩
        rw [HP.out]
        have hq1 := hq.dr hd1
        go_wp2_with fail
        refine (validParts_any _ _ _ Q _ hq1 (by omega)).mono ?_
        rintro e w2 ⟨rfl, hd2⟩
        rw [HQ.out]
        go_wp2_with fail
        go_ret2
        exact ⟨none, 0, rfl, (RdLF.nil w2 0 _).rd, (Dr.below hd1 _).trans (Dr.below hd2 _)⟩
      | true =>
        have HQ := Lib.hid hq2
        clear hq2
        by_cases h12 : sumL P ≤ 12
        · have HD : Hid (dom P Q = false) := Lib.hid (by
            cases hd : dom P Q with
            | false => rfl
            | true => exact absurd ⟨hd, h12⟩ hok)
          have hdec0 : decide (12 < sumL P) = false := decide_eq_false (by omega)
          clear hok hc hf
          go_enter Try.func9, Try.ntmps9
          go_wp2_with fail
          refine (validParts_any _ _ _ P _ h (by omega)).mono ?_
          rintro e w1 ⟨rfl, hd1⟩
          rw [HP.out]
          have hq1 := hq.dr hd1
          have h1 := h.dr hd1
          have hb1 : Below w.heap.size w w1 := Dr.below hd1 _
          have hz1 := hb1.size
          go_wp2_with fail
          refine (validParts_any _ _ _ Q _ hq1 (by omega)).mono ?_
          rintro e w2 ⟨rfl, hd2⟩
          rw [HQ.out]
          have h2 := h1.dr hd2
          have hq2 := hq1.dr hd2
          have hb2 : Below w.heap.size w w2 := hb1.trans (Dr.below hd2 _)
          have hz2 := hb2.size
          go_wp2_with fail
          refine (sum_any _ _ _ P _ h2 HF.out (by omega)).mono ?_
          rintro e w' ⟨rfl, rfl⟩
          go_wp2_with fail
          refine (sdominates_any _ _ _ _ _ _ P Q _ h2 hq2 (by omega) (by omega) HP.out HQ.out).mono ?_
          rintro e w' ⟨rfl, rfl⟩
          rw [HD.out]
          go_wp2_with fail
          go_ret2
          exact ⟨none, 0, rfl, (RdLF.nil _ 0 _).rd, hb2⟩
        · have hdec0 : decide (12 < sumL P) = true := decide_eq_true (by omega)
          clear hok hc hf
          go_enter Try.func9, Try.ntmps9
          go_wp2_with fail
          refine (validParts_any _ _ _ P _ h (by omega)).mono ?_
          rintro e w1 ⟨rfl, hd1⟩
          rw [HP.out]
          have hq1 := hq.dr hd1
          have h1 := h.dr hd1
          go_wp2_with fail
          refine (validParts_any _ _ _ Q _ hq1 (by omega)).mono ?_
          rintro e w2 ⟨rfl, hd2⟩
          rw [HQ.out]
          have h2 := h1.dr hd2
          go_wp2_with fail
          refine (sum_any _ _ _ P _ h2 HF.out (by omega)).mono ?_
          rintro e w' ⟨rfl, rfl⟩
          go_wp2_with fail
          go_ret2
          exact ⟨none, 0, rfl, (RdLF.nil _ 0 _).rd, (Dr.below hd1 _).trans (Dr.below hd2 _)⟩
end Go.Proofs.Ytmojonpjgaidgaa
namespace Go.Proofs.Ytmojonpjgaidgaa
open Go.RowKit NP
set_option maxRecDepth 8000
set_option linter.unusedVariables false
set_option linter.unusedSimpArgs false


set_option maxHeartbeats 400000 in
theorem partsOfV_any (g q : Nat) (n : Int) (bs : List Int) (w : World) (hn0 : 0 ≤ n) (hn : n ≤ 16) (hq : q ≤ 900000) (h : Rdr w g bs q) :
    Calls Try.prog 43 #[.pointer (some ⟨g, 0, none⟩), .int .i64 n] w fun e w' => ∃ a' c' M, e = .returned (.slice a' M.length c') ∧ Own w' w.heap.size w'.heap.size 3 (.slice a' M.length c') (ints M) ∧ valid M = true ∧ (∃ q', q' ≤ q + 32 ∧ Rdr w' g bs q') ∧ w.grownBy w' (some g) := by
  obtain ⟨i0, hi, hz0, hz1, hz2⟩ := T_int'
  have hlt := h.lt
  go_enter Try.func43, Try.ntmps43
  go_wp2_with fail
  go_loopw [1, 5] (fun nn v wr => ∃ (m : Nat) (q' : Nat) (M : List Int), nn = .int .i64 (m : Int) ∧ M.length + m ≤ 16 ∧ q' + 2 * m ≤ q + 32 ∧ Rdr wr g bs q' ∧ w.grownBy wr (some g) ∧ Own wr w.heap.size wr.heap.size 3 v (ints M) ∧ Hid ((∀ x ∈ M, 1 ≤ x ∧ x ≤ 16) ∧ sumL M + (m : Int) ≤ 16)) (fun nn _ _ => (intOf nn).toNat)
  case atStart =>
    obtain ⟨m, rfl⟩ := Int.eq_ofNat_of_zero_le hn0
    exact ⟨m, q, [], rfl, by simp; omega, by omega, h.below ((Below.refl _ _).alloc hlt _), World.grownBy_alloc w _ _, (Own.empty w 3).more, Lib.hid ⟨by simp, by simp [sumL]; omega⟩⟩
  case round =>
    obtain ⟨m, q', M, rfl, hMm, hqm, hr, hg, hown, HM⟩ := hrel
    by_cases hm : 0 < m
    · have hm' : (0 : Int) < (m : Int) := by omega
      have hltr := hr.lt
      have HO := Lib.hid hown
      clear hown
      go_wp2_with fail
      refine (one_any g q' _ _ _ [3, 5, 9, 2, 16] bs _ (by simp) (by simp) (by omega) (hr.below ((Below.refl _ _).alloc hltr _)) (rd_new wr _ _) (by intro b o e; injection e with e; injection e with e; omega)).mono ?_
      rintro e w1 ⟨k, hk, rfl, h1, hg1, -⟩
      have hx : ∀ x ∈ ([3, 5, 9, 2, 16] : List Int), 2 ≤ x ∧ x ≤ 16 := by decide
      have hx1 := hx _ (List.getElem_mem hk)
      obtain ⟨x, hxx⟩ : ∃ x, x = ([3, 5, 9, 2, 16] : List Int)[k] := ⟨_, rfl⟩
      rw [← hxx] at hx1 ⊢
      clear hx hxx hk
      have hzr := hg.size
      have HO1 := Lib.hid ((HO.out.alloc (.cells (ints [3, 5, 9, 2, 16]).toArray 3)).chg hg1 (by omega)).more
      have hgw1 := chg_trans (chg_alloc hg (.cells (ints [3, 5, 9, 2, 16]).toArray 3)) hg1
      clear hg1 HO
      go_wp2_with fail
      all_goals
        refine (pick_any g _ _ bs _ (by omega) (by omega) h1).mono ?_
        rintro e w2 ⟨y, rfl, hy0, hy1, h2, hg2, -⟩
        obtain ⟨y, rfl⟩ := Int.eq_ofNat_of_zero_le hy0
        have hym : y + 1 ≤ m := by have := hy1 (by omega); omega
        clear hy1
        have hown2 := (HO1.out.chg hg2 (by omega)).more
        have hgw2 := chg_trans hgw1 hg2
        have hzw2 := hgw2.size
        clear hgw1 hg2 HO1
        go_wp2_with (at_builtin; refine wpList_append_o _ rfl (.tmp 18) (.tmp 20) 22 rfl w.heap.size w2.heap.size 3 i0 (.int .i64 0) 8 Try.underlying22 hi hz0 hz1 hz2 rfl _ (ints M) rfl (hown2.alloc _) (w2.heap.size + 1) (some ⟨w2.heap.size, 0, none⟩) 1 1 [.int .i64 (1 + (y : Int))] rfl (Rd.one w2 _ _) rfl (by simp; rfl) (by simp; unfold maxLen; omega) (by simp; omega) (by simp; omega) ?_; intro v' w3 ho3 hg3 hat3)
        go_roundw
        case rel =>
          refine ⟨m - (1 + y), q' + 2, M ++ [1 + (y : Int)], by go_num, by simp; omega, by omega, (h2.row (World.grownBy_alloc w2 _ none) (by simp)).row hg3 (fun k hk => by have := hown2.base k hk; omega), chg_row (chg_alloc hgw2 _) hg3 hown2.base, by simpa [ints] using ho3, Lib.hid ⟨fun x hx => ?_, ?_⟩⟩
          · simp at hx
            rcases hx with hx | hx
            · exact HM.out.1 x hx
            · omega
          · have := HM.out.2
            rw [sumL_append]
            simp [sumL]
            omega
        case measure => simp [intOf]; omega
    · obtain rfl : m = 0 := by omega
      obtain ⟨a0, c0, rfl⟩ := hown.form
      have hs : SmallParts M := ⟨by omega, HM.out.1⟩
      have HS : Hid (valid (mrg M) = true) := Lib.hid (valid_mono (mrg_mono M) (fun x hx => (HM.out.1 x (mrg_mem hx)).1) (by rw [mrg_sum]; have := HM.out.2; omega))
      have hlM : (ints M).length = M.length := by simp
      rw [hlM] at hown ⊢
      have HO := Lib.hid hown
      clear hown hlM
      go_wp2_with fail
      refine (merge_any _ _ _ M _ HO.out.rd (by omega) (by have := hs.1; omega)).mono ?_
      rintro e w1 ⟨a', c', rfl, ho1, hb1⟩
      go_wp2_with fail
      go_ret
      exact ⟨a', c', mrg M, rfl, ho1.lower hg.size, HS.out, ⟨q', by omega, hr.below (hb1.mono hr.lt)⟩, chg_below hg (hb1.mono hg.size)⟩

theorem keep_offD {w w1 : World} {lo : Nat} {e : TypeId} {v : Value} {vs : List Value} {o : Obj} {n c : Nat} (h : Own w lo w.heap.size e v vs) (hg : (w.alloc o).grownBy w1 (Value.slice (some ⟨w.heap.size, 0, none⟩) n c).ownBlock) : Own w1 lo w1.heap.size e v vs :=
  ((h.alloc o).grown hg (by
    cases hb : v.ownBlock with
    | none => exact .inl rfl
    | some g => exact .inr fun e => by have := h.lt g hb; simp [Value.ownBlock] at e; omega)).more
theorem small_of_parts' {M : List Int} (h : SmallParts M) : Small M := ⟨by have := h.1; omega, fun x hx => by have := h.2 x hx; omega⟩
theorem small_of_valid {M : List Int} (h : valid M = true) : Small M := by
  have hb := valid_bd h
  refine ⟨by omega, fun x hx => ?_⟩
  obtain ⟨k, hk, rfl⟩ := List.getElem_of_mem hx
  have := preS_of_valid h k hk hk
  omega





end Go.Proofs.Ytmojonpjgaidgaa
namespace Go.Proofs.Ytmojonpjgaidgaa
open Go.RowKit NP
set_option maxRecDepth 8000
set_option linter.unusedVariables false
/-- but for block g and those from lo to hi, nothing has turned -/
structure Chg2 (g lo hi : Nat) (w w' : World) : Prop where
  os : w'.os = w.os
  tape : w'.tape = w.tape
  output : w'.output = w.output
  size : w.heap.size ≤ w'.heap.size
  block : ∀ k, k < w.heap.size → k ≠ g → (k < lo ∨ hi ≤ k) → w'.heap[k]? = w.heap[k]?
theorem Chg2.trans {g lo hi : Nat} {a b c : World} (h : Chg2 g lo hi a b) (k : Chg2 g lo hi b c) : Chg2 g lo hi a c :=
  ⟨k.os.trans h.os, k.tape.trans h.tape, k.output.trans h.output, Nat.le_trans h.size k.size, fun i hi hne hd => (k.block i (by have := h.size; omega) hne hd).trans (h.block i hi hne hd)⟩
theorem Chg2.of {g lo hi : Nat} {w w' : World} (h : w.grownBy w' (some g)) : Chg2 g lo hi w w' :=
  ⟨h.os, h.tape, h.output, h.size, fun k hk hne _ => h.block k hk (fun e => by injection e with e; exact hne e)⟩
theorem Chg2.ofBelow {g lo hi : Nat} {w w' : World} (h : Below w.heap.size w w') : Chg2 g lo hi w w' := ⟨h.os, h.tape, h.output, h.size, fun k hk _ _ => h.block k hk⟩
theorem Chg2.set {g lo hi : Nat} {w : World} {p : Addr} (v : Value) (h1 : lo ≤ p.block) (h2 : p.block < hi) : Chg2 g lo hi w (w.setCell p v) :=
  ⟨rfl, rfl, rfl, by simp [World.setCell], fun k _ _ hd => Below.heap_setCell w p v k (by rintro rfl; omega)⟩
theorem Chg2.push {g lo hi : Nat} {w0 w w1 : World} {o : Obj} {row : Option Nat} (h : Chg2 g lo hi w0 w) (hg : (w.alloc o).grownBy w1 row) (hr : ∀ k, row = some k → lo ≤ k ∧ k < hi) : Chg2 g lo hi w0 w1 :=
  (h.trans (.ofBelow ((Below.refl _ w).alloc (Nat.le_refl _) o))).trans ⟨hg.os, hg.tape, hg.output, hg.size, fun k hk hne hd => hg.block k hk (fun e => by have := hr k e.symm; omega)⟩
set_option maxHeartbeats 400000 in
theorem bent_at (g q lo hi : Nat) (a : Option Addr) (c : Nat) (M : List Int) (bs : List Int) (w : World) (hq : q ≤ 900000) (h : Rdr w g bs q) (hs : SmallParts M) (hhi : hi ≤ w.heap.size) (ho : Own w lo hi 3 (.slice a M.length c) (ints M)) (hlo : g < lo) (hloW : lo ≤ w.heap.size) :
    Calls Try.prog 47 #[.pointer (some ⟨g, 0, none⟩), .slice a M.length c] w fun e w' => ∃ a' c' M', e = .returned (.slice a' M'.length c') ∧ Own w' lo w'.heap.size 3 (.slice a' M'.length c') (ints M') ∧ Small M' ∧ (∃ q', q' ≤ q + 4 ∧ Rdr w' g bs q') ∧ Chg2 g lo hi w w' := by
  obtain ⟨i0, hib, hz0, hz1, hz2⟩ := T_int'
  have hlt := h.lt
  have hM16 := hs.1
  have HSM : Hid (Small M) := Lib.hid ⟨by omega, fun x hx => by have := hs.2 x hx; omega⟩
  have HS := Lib.hid hs
  clear hs
  have HO := Lib.hid ho
  clear ho
  go_enter Try.func47, Try.ntmps47
  go_wp2_with fail
  refine (pick_any g _ _ bs _ (by omega) (by omega) h).mono ?_
  rintro e w1 ⟨y, rfl, hy0, hy1, h1, hg1, -⟩
  clear hy1
  have hb1 : Chg2 g lo hi w w1 := .of hg1
  have hz1' := hb1.size
  have hown1 := HO.out.chg hg1 hlo
  clear HO hg1
  have hlt1 := h1.lt
  by_cases h0 : y = 0
  · subst h0
    by_cases hM0 : 0 < M.length
    · have hM0' : (0 : Int) < (M.length : Int) := by omega
      have HO1 := Lib.hid hown1
      clear hown1
      go_wp2_with fail
      refine (pick_any g _ _ bs _ (by omega) (by omega) h1).mono ?_
      rintro e w2 ⟨y2, rfl, hy20, hy21, h2, hg2, -⟩
      obtain ⟨y2, rfl⟩ := Int.eq_ofNat_of_zero_le hy20
      have hyM : y2 < M.length := by have := hy21 (by omega); omega
      clear hy21
      have HO2 := Lib.hid (HO1.out.chg hg2 hlo)
      have hlt2 := h2.lt
      have hb2 : Chg2 g lo hi w w2 := hb1.trans (.of hg2)
      clear HO1 hg2
      go_wp2_with fail
      refine (one_any g _ _ _ _ [0, -1, 17, 9] bs _ (by simp) (by simp) (by omega) (h2.below ((Below.refl _ _).alloc hlt2 _)) (rd_new w2 _ _) (by intro b o e; injection e with e; injection e with e; omega)).mono ?_
      rintro e w3 ⟨k, hk, rfl, h3, hg3, -⟩
      have hx : ∀ x ∈ ([0, -1, 17, 9] : List Int), -1 ≤ x ∧ x ≤ 17 := by decide
      have hx1 := hx _ (List.getElem_mem hk)
      obtain ⟨x, hxx⟩ : ∃ x, x = ([0, -1, 17, 9] : List Int)[k] := ⟨_, rfl⟩
      rw [← hxx] at hx1 ⊢
      clear hx hxx hk
      have hown3 := (HO2.out.alloc (.cells (ints [0, -1, 17, 9]).toArray 3)).chg hg3 hlo
      have hsz2 := hb2.size
      have hb3 : Chg2 g lo hi w w3 := (hb2.trans (.ofBelow ((Below.refl _ w2).alloc (Nat.le_refl _) _))).trans (.of hg3)
      clear HO2 hg3
      obtain ⟨g2, u, rfl, hlo2, hhi2, hc2, hf2⟩ := hown3.spot (k := y2) (by simpa using hyM)
      have HO3 := Lib.hid hown3
      clear hown3
      have hcs : ∀ v, Chg2 g lo hi w (w3.setCell ⟨g2, y2, none⟩ v) := fun v => hb3.trans (.set _ hlo2 hhi2)
      have HCS := Lib.hid hcs
      clear hcs
      have HRS : Hid (∀ v, Rdr (w3.setCell ⟨g2, y2, none⟩ v) g bs (q + 1 + 1 + 1)) := Lib.hid fun v => h3.below ((Below.refl _ _).setCell (by show g + 1 ≤ g2; omega) v)
      go_wp2_with fail
      go_ret
      have e := HO3.out.set y2 (.int .i64 x)
      have hset : (ints M).set y2 (.int .i64 x) = ints (M.set y2 x) := by simp [ints, List.map_set]
      rw [hset] at e
      refine ⟨some ⟨g2, 0, none⟩, c, M.set y2 x, by simp, by simpa using e.more, ⟨by simpa using HSM.out.1, fun z hz => ?_⟩, ⟨_, by omega, HRS.out _⟩, HCS.out _⟩
      rcases List.mem_or_eq_of_mem_set hz with hz | rfl
      · exact HSM.out.2 z hz
      · exact hx1
    · have hM0' : (M.length : Int) ≤ 0 := by omega
      have hd0 : decide (0 < M.length) = false := decide_eq_false hM0
      have HO1 := Lib.hid hown1
      clear hown1
      go_wp2_with fail
      go_ret
      exact ⟨a, c, M, rfl, HO1.out.more, HSM.out, ⟨q + 1, by omega, h1⟩, hb1⟩
  · have e0 : (y == 0) = false := by simp; omega
    by_cases h1' : y = 1
    · subst h1'
      have hlo1 : lo ≤ w1.heap.size := by
        rcases hown1.row.2 with ⟨_, h⟩ | ⟨g2, cap, cur, _, hb, hg, _⟩
        · exact Nat.le_trans hloW hb1.size
        · have := (Array.getElem?_eq_some_iff.1 hg).1; omega
      have hlen2 : (ints M).length = M.length := by simp
      go_wp2_with (at_builtin; refine wpList_append_o _ rfl (.tmp 23) (.tmp 24) 22 rfl lo hi 3 i0 (.int .i64 0) 8 Try.underlying22 hib hz0 hz1 hz2 rfl _ (ints M) rfl (hown1.alloc _) (w1.heap.size + 1) (some ⟨w1.heap.size, 0, none⟩) 1 1 (ints [9]) rfl (rd_new w1 _ _) rfl (ints_one _) (by rw [hlen2]; unfold maxLen; omega) (by rw [hlen2]; omega) (by simp; omega) ?_; intro v' w3 ho3 hg3 hat3)
      go_ret
      have e : ints M ++ ints [9] = ints (M ++ [9]) := by simp [ints]
      rw [e] at ho3
      obtain ⟨a', c', rfl⟩ := ho3.form
      have hl3 : (ints (M ++ [9])).length = (M ++ [9]).length := by simp
      rw [hl3] at ho3 ⊢
      refine ⟨a', c', M ++ [9], rfl, ho3, ⟨by simp; omega, fun x hx => ?_⟩, ⟨q + 1, by omega, (h1.row (World.grownBy_alloc w1 _ none) (by simp)).row hg3 (fun k hk => by have := hown1.base k hk; omega)⟩, hb1.push hg3 (fun k hk => ⟨hown1.base k hk, hown1.lt k hk⟩)⟩
      rcases List.mem_append.1 hx with hx | hx
      · exact HSM.out.2 x hx
      · have : ∀ x ∈ ([9] : List Int), -1 ≤ x ∧ x ≤ 17 := by decide
        exact this x hx
    · have e1 : (y == 1) = false := by simp; omega
      by_cases h2' : y = 2
      · subst h2'
        have hlo1 : lo ≤ w1.heap.size := by
          rcases hown1.row.2 with ⟨_, h⟩ | ⟨g2, cap, cur, _, hb, hg, _⟩
          · exact Nat.le_trans hloW hb1.size
          · have := (Array.getElem?_eq_some_iff.1 hg).1; omega
        have hlen2 : (ints M).length = M.length := by simp
        go_wp2_with (at_builtin; refine wpList_append_o _ rfl (.tmp 28) (.tmp 29) 22 rfl lo hi 3 i0 (.int .i64 0) 8 Try.underlying22 hib hz0 hz1 hz2 rfl _ (ints M) rfl (hown1.alloc _) (w1.heap.size + 1) (some ⟨w1.heap.size, 0, none⟩) 16 16 (ints [1, 1, 1, 1, 1, 1, 1, 1, 1, 1, 1, 1, 1, 1, 1, 1]) rfl (rd_new w1 _ _) rfl (ints_one _) (by rw [hlen2]; unfold maxLen; omega) (by rw [hlen2]; omega) (by simp; omega) ?_; intro v' w3 ho3 hg3 hat3)
        go_ret
        have e : ints M ++ ints [1, 1, 1, 1, 1, 1, 1, 1, 1, 1, 1, 1, 1, 1, 1, 1] = ints (M ++ [1, 1, 1, 1, 1, 1, 1, 1, 1, 1, 1, 1, 1, 1, 1, 1]) := by simp [ints]
        rw [e] at ho3
        obtain ⟨a', c', rfl⟩ := ho3.form
        have hl3 : (ints (M ++ [1, 1, 1, 1, 1, 1, 1, 1, 1, 1, 1, 1, 1, 1, 1, 1])).length = (M ++ [1, 1, 1, 1, 1, 1, 1, 1, 1, 1, 1, 1, 1, 1, 1, 1]).length := by simp
        rw [hl3] at ho3 ⊢
        refine ⟨a', c', M ++ [1, 1, 1, 1, 1, 1, 1, 1, 1, 1, 1, 1, 1, 1, 1, 1], rfl, ho3, ⟨by simp; omega, fun x hx => ?_⟩, ⟨q + 1, by omega, (h1.row (World.grownBy_alloc w1 _ none) (by simp)).row hg3 (fun k hk => by have := hown1.base k hk; omega)⟩, hb1.push hg3 (fun k hk => ⟨hown1.base k hk, hown1.lt k hk⟩)⟩
        rcases List.mem_append.1 hx with hx | hx
        · exact HSM.out.2 x hx
        · have : ∀ x ∈ ([1, 1, 1, 1, 1, 1, 1, 1, 1, 1, 1, 1, 1, 1, 1, 1] : List Int), -1 ≤ x ∧ x ≤ 17 := by decide
          exact this x hx
      · have e2 : (y == 2) = false := by simp; omega
        have HO1 := Lib.hid hown1
        clear hown1
        go_wp2_with fail
        go_ret
        exact ⟨a, c, M, rfl, HO1.out.more, HSM.out, ⟨q + 1, by omega, h1⟩, hb1⟩
end Go.Proofs.Ytmojonpjgaidgaa
