/-
  Walks: corners of the model and of the program. A row loaded under a guard that holds. Walks: cells taken away and put, of the model and of the program. Walks of the model: kinds of parts; stairs. Walks: the model's kind at three names, its list of the parts of a kind. Plain mathematics: what is right below parts and right above them, for all parts of a sum up to 12; the order of places. Walks of the program: all parts with a sum. Walks of the model: all parts with a sum. All parts with a sum: their sums, their places, how many: tables. Plain mathematics: going down by covers: what is dominated lies below a cover, by tables.
-/
import Derived.Test.YtmojonpjgaidgaaZchain1
import Derived.Test.YtmojonpjgaidgaaZchain2
import Derived.Test.YtmojonpjgaidgaaZchain3
import Derived.Test.YtmojonpjgaidgaaZchain4
import Derived.Test.YtmojonpjgaidgaaZchain5
namespace Go.Proofs.Ytmojonpjgaidgaa
open Go.RowKit NP
set_option maxRecDepth 8000
set_option linter.unusedVariables false





end Go.Proofs.Ytmojonpjgaidgaa
namespace Go.Proofs.Ytmojonpjgaidgaa
open Go.RowKit
theorem wpList_load_row_g {P : Program} {ops : Array Oper} {rest : List Oper} {o : Oper} {a : Act} {w : World} {Q : Exit → Act → World → Prop} (hgd : Region.wanted o (yielded ops a.tmps) = true) (ty : TypeId) (x : Operand) (ho : o.op = .load ty x)
    (g : Nat) (hx : a.eval x = .pointer (some ⟨g, 0, none⟩)) (t : TypeId) (cs : Array Value) (fr : Nat × Nat) (d : TypeDesc) (hg : w.heap[g]? = some (.cells cs t fr))
    (hu : P.underlying ty = some d) (hd : (match d with | .struct _ | .array _ _ => true | _ => false) = true) (hi : (P.info? ty).map (·.size) = some cs.size)
    (h : wpList P ops Q rest (a.put o.dst (.agg cs)) w) : wpList P ops Q (o :: rest) a w :=
  wpList_step fun K hK => by
    rw [if_pos hgd]
    exact wp_load_row ty x ho g hx t cs fr d hg hu hd hi (hK _ _ h)
end Go.Proofs.Ytmojonpjgaidgaa
namespace Go.Proofs.Ytmojonpjgaidgaa
open Go.RowKit NP
set_option maxRecDepth 8000
set_option linter.unusedVariables false

theorem Own.take {w : World} {lo hi : Nat} {e : TypeId} {a : Option Addr} {n c : Nat} {vs : List Value} (h : Own w lo hi e (.slice a n c) vs) (k : Nat) (hk : k ≤ vs.length) : Own w lo hi e (.slice a k c) (vs.take k) := by
  refine ⟨?_, fun g hg => h.lt g (by cases a with | none => cases hg | some b => exact hg), h.le⟩
  have hlen : (vs.take k).length = k := by simp; omega
  rw [hlen]
  refine ⟨by rw [hlen]; omega, ?_⟩
  rcases h.row.2 with ⟨e1, e2⟩ | ⟨g, cap, cur, e1, hb, hg, hc, hm, hs, ht⟩
  · injection e1 with e3 e4 e5
    subst e3; subst e5
    have : k = 0 := by omega
    subst this
    exact .inl ⟨rfl, rfl⟩
  · injection e1 with e3 e4 e5
    subst e3; subst e5
    refine .inr ⟨g, c, cur, rfl, hb, hg, by omega, hm, hs, ?_⟩
    rw [← ht, List.take_take]
    congr 1
    omega



theorem rmvOk_no {L : List Int} (h : valid L = false) (i : Int) : rmvOk L i = false := by simp [rmvOk, h]
theorem rmvOk_yes {L : List Int} (h : valid L = true) (i : Int) : rmvOk L i = hasI (crn L) i := by
  unfold rmvOk crn
  rw [h, Bool.true_and, crnTo_fl, hasI_fl]
theorem rmv_no {L : List Int} {i : Int} (h : rmvOk L i = false) : rmv L i = [] := by simp [rmv, h]
theorem rmv_yes {L : List Int} {i : Int} (h : rmvOk L i = true) : ∃ k : Nat, i = k ∧ k < L.length ∧ isC L k = true ∧ valid L = true ∧ rmv L i = lessL L k := by
  have h2 := h
  unfold rmvOk at h
  simp only [Bool.and_eq_true, decide_eq_true_eq] at h
  obtain ⟨hv, ⟨h0, hlt⟩, hc⟩ := h
  obtain ⟨k, rfl⟩ := Int.eq_ofNat_of_zero_le h0
  refine ⟨k, rfl, by omega, hc, hv, ?_⟩
  unfold rmv
  rw [if_pos h2]
  rfl
theorem own_nil0 (w : World) (lo : Nat) (e : TypeId) : Own w lo w.heap.size e (.slice none ([] : List Int).length 0) (ints []) := Own.nil w lo e

theorem addOk_no {L : List Int} (h : valid L = false) (i : Int) : addOk L i = false := by simp [addOk, h]
theorem addC_no {L : List Int} {i : Int} (h : addOk L i = false) : addC L i = [] := by simp [addC, h]
theorem addC_yes {L : List Int} {i : Int} (h : addOk L i = true) : addC L i = addL L i.toNat := by simp [addC, h]
theorem addOk_at {L : List Int} (hv : valid L = true) {k : Nat} (hk : k ≤ L.length) : addOk L k = valid (addL L k) := by
  unfold addOk
  rw [hv, decide_eq_true (by omega : (0 : Int) ≤ (k : Int)), decide_eq_true (by omega : (k : Int) ≤ (L.length : Int))]
  rfl
theorem addOk_out {L : List Int} {i : Int} (h : ¬ (0 ≤ i ∧ i ≤ L.length)) : addOk L i = false := by
  unfold addOk
  rcases Int.lt_or_le i 0 with h0 | h0
  · rw [decide_eq_false (by omega : ¬ 0 ≤ i)]; simp
  · rw [decide_eq_false (by omega : ¬ i ≤ (L.length : Int))]; simp
theorem Blk.drs {w : World} {g : Nat} {t : TypeId} {cs : Array Value} (h : Blk w g t cs) (n : Nat) : Blk (w.drewN n) g t cs := h

end Go.Proofs.Ytmojonpjgaidgaa
namespace Go.Proofs.Ytmojonpjgaidgaa
open Go.RowKit NP
set_option maxRecDepth 8000
set_option linter.unusedVariables false
set_option linter.unusedSimpArgs false


set_option maxHeartbeats 1000000 in
theorem same_any (a b : Option Addr) (ca cb Ba Bb : Nat) (L M : List Int) (hl : L.length ≤ 1000) (w : World) (h : Rd w Ba a (ints L)) (hm : Rd w Bb b (ints M)) (hml : M.length ≤ 1000) :
    Calls Try.prog 35 #[.slice a L.length ca, .slice b M.length cb] w fun e w' => e = .returned (.bool (decide (L = M))) ∧ ∃ n, w' = w.drewN n := by
  by_cases hlen : L.length = M.length
  · have b0 : ((L.length : Int) != (M.length : Int)) = false := by simp [hlen]
    go_enter Try.func35, Try.ntmps35
    go_wp2_with fail
    clear b0
    go_loopw [5] (fun vi wr => ∃ k : Nat, k ≤ L.length ∧ vi = .int .i64 k ∧ Dr w wr ∧ Hid (∀ j, j < k → L.getD j 0 = M.getD j 0)) (fun vi _ => L.length - (intOf vi).toNat)
    case atStart => exact ⟨0, Nat.zero_le _, rfl, Dr.refl _, Lib.hid fun j hj => by omega⟩
    case round =>
      obtain ⟨k, hk, rfl, hdr, HP⟩ := hrel
      by_cases hlt : k < L.length
      · have hlt' : (k : Int) < (L.length : Int) := by omega
        have hltm : k < M.length := by omega
        have hlt'm : (k : Int) < (M.length : Int) := by omega
        obtain ⟨b1, o1, rfl, _, hc⟩ := (h.dr hdr).at_ hlt
        obtain ⟨b2, o2, rfl, _, hc'⟩ := (hm.dr hdr).at_ hltm
        have HG : Hid (L.getD k 0 = L[k]) := Lib.hid (getD_lt hlt)
        have HG' : Hid (M.getD k 0 = M[k]) := Lib.hid (getD_lt hltm)
        by_cases e1 : L[k] = M[k]
        · have HE : Hid (L.getD k 0 = M.getD k 0) := Lib.hid (by rw [HG.out, HG'.out, e1])
          have b1 : (L[k] != M[k]) = false := by simp [e1]
          clear e1 hlen
          generalize L[k] = x at hc HG b1
          generalize M[k] = y at hc' HG' b1
          go_wp2_with fail
          go_quiet (fail)
          go_wp2
          go_roundw
          case rel => exact ⟨k + 1, by omega, by go_num, hdr.drewN _, Lib.hid fun j hj => by
            rcases Nat.lt_or_ge j k with h1 | h1
            · exact HP.out j h1
            · obtain rfl : j = k := by omega
              exact HE.out⟩
          case measure => simp [intOf]; omega
        · have HF : Hid (decide (L = M) = false) := Lib.hid (decide_eq_false fun hc => e1 (by subst hc; rfl))
          have b1 : (L[k] != M[k]) = true := by simpa using e1
          clear e1 hlen
          generalize L[k] = x at hc HG b1
          generalize M[k] = y at hc' HG' b1
          go_wp2_with fail
          go_quiet (fail)
          go_wp2
          go_ret
          exact ⟨ret_bool HF.out.symm, hdr.trans (Dr.n _ _)⟩
      · obtain rfl : k = L.length := by omega
        have HF : Hid (decide (L = M) = true) := Lib.hid (decide_eq_true (List.ext_getElem hlen fun j h1 h2 => by
          have := HP.out j h1
          rwa [getD_lt h1, getD_lt h2] at this))
        clear hlen
        go_wp2
        go_ret
        exact ⟨ret_bool HF.out.symm, hdr⟩
  · have b0 : ((L.length : Int) != (M.length : Int)) = true := by simp; omega
    have HF : Hid (decide (L = M) = false) := Lib.hid (decide_eq_false fun hc => hlen (by rw [hc]))
    clear hlen
    go_enter Try.func35, Try.ntmps35
    go_wp2_with fail
    go_ret
    exact ⟨ret_bool HF.out.symm, 0, rfl⟩



end Go.Proofs.Ytmojonpjgaidgaa
namespace Go.Proofs.Ytmojonpjgaidgaa
open Go.RowKit NP
set_option maxRecDepth 8000
set_option linter.unusedVariables false
set_option linter.unusedSimpArgs false
theorem OwnLL.keep {w w' : World} {lo hi : Nat} {eo e : TypeId} {v : Value} {vs : List Value} {LL : List (List Int)} (h : OwnLL w lo hi eo e v vs LL) (hs : w.heap.size ≤ w'.heap.size) (hk : ∀ g, lo ≤ g → g < hi → w'.heap[g]? = w.heap[g]?) : OwnLL w' lo hi eo e v vs LL :=
  ⟨h.outer.keep hs fun g hg => hk g (h.outer.base g hg) (h.outer.lt g hg), h.len, fun k u L hu hL => (h.inner k u L hu hL).keep hs fun g hg => hk g ((h.inner k u L hu hL).base g hg) ((h.inner k u L hu hL).lt g hg), h.apartO, h.apart⟩
def okQ (L : List Int) : Bool := valid L && decide (L.length ≤ 16) && L.all fun x => decide (1 ≤ x) && decide (x ≤ 16)
def okTab : Bool := (List.range 13).all fun n => (allQ n n n).all okQ
set_option maxRecDepth 100000 in
theorem okTab_all : okTab = true := by decide +kernel
theorem allQ_ok {n : Nat} (hn : n ≤ 12) : ∀ L ∈ allQ n n n, valid L = true ∧ SmallParts L := by
  intro L hL
  have h := okTab_all
  unfold okTab at h
  have h1 := List.all_eq_true.1 h n (by simp; omega)
  have h2 := List.all_eq_true.1 h1 L hL
  unfold okQ at h2
  simp only [Bool.and_eq_true, decide_eq_true_eq, List.all_eq_true] at h2
  exact ⟨h2.1.1, h2.1.2, h2.2⟩

/-- what lies between lo and the end of w2 is the same in w' -/
def Kp (w2 w' : World) (lo : Nat) : Prop := w2.heap.size ≤ w'.heap.size ∧ ∀ g, lo ≤ g → g < w2.heap.size → w'.heap[g]? = w2.heap[g]?
theorem Kp.below {w2 w w' : World} {lo : Nat} (h : Kp w2 w lo) (hb : Below w.heap.size w w') : Kp w2 w' lo :=
  ⟨Nat.le_trans h.1 hb.size, fun g h1 h2 => (hb.block g (Nat.lt_of_lt_of_le h2 h.1)).trans (h.2 g h1 h2)⟩
theorem Kp.alloc {w2 w : World} {lo : Nat} (h : Kp w2 w lo) (o : Obj) : Kp w2 (w.alloc o) lo :=
  h.below ((Below.refl _ _).alloc (Nat.le_refl _) o)
theorem Kp.grown {w2 w w' : World} {lo : Nat} {row : Option Nat} (h : Kp w2 w lo) (hg : w.grownBy w' row) (hr : ∀ g, row = some g → g < lo ∨ w2.heap.size ≤ g) : Kp w2 w' lo :=
  ⟨Nat.le_trans h.1 hg.size, fun g h1 h2 => (hg.block g (Nat.lt_of_lt_of_le h2 h.1) (fun e => by have := hr g e.symm; omega)).trans (h.2 g h1 h2)⟩
end Go.Proofs.Ytmojonpjgaidgaa
namespace Go.Proofs.Ytmojonpjgaidgaa
open Go.RowKit NP
set_option linter.unusedVariables false
set_option linter.unusedSimpArgs false
theorem beqL_iff : ∀ A B : List Int, beqL A B = decide (A = B) := by
  intro A
  induction A with
  | nil => intro B; cases B <;> simp [beqL]
  | cons x r ih =>
    intro B
    cases B with
    | nil => simp [beqL]
    | cons y q =>
      rw [beqL]
      by_cases h : x = y
      · rw [if_pos h, ih]; subst h; simp
      · rw [if_neg h]; simp [h]
theorem raise_drop (D : List Int) (i : Nat) (h : i + 1 < D.length) : raiseL (dropL D i) i = D := by
  unfold raiseL dropL
  apply List.ext_getElem (by simp)
  intro k h1 h2
  by_cases e1 : i + 1 = k
  · subst e1
    simp [List.getD_eq_getElem?_getD, h2]
  · by_cases e2 : i = k
    · subst e2
      simp [List.getElem_set, List.getElem?_set, List.getD_eq_getElem?_getD, h2, h, Nat.lt_of_succ_lt h]
    · simp [List.getElem_set, e1, e2]
theorem drop_raise (D : List Int) (i : Nat) (h : i + 1 < D.length) : dropL (raiseL D i) i = D := by
  unfold raiseL dropL
  apply List.ext_getElem (by simp)
  intro k h1 h2
  by_cases e1 : i + 1 = k
  · subst e1
    simp [List.getD_eq_getElem?_getD, h2]
  · by_cases e2 : i = k
    · subst e2
      simp [List.getElem_set, List.getElem?_set, List.getD_eq_getElem?_getD, h2, h, Nat.lt_of_succ_lt h]
    · simp [List.getElem_set, e1, e2]
theorem raise_len (D : List Int) (i : Nat) : (raiseL D i).length = D.length := by simp [raiseL]
theorem drop_any (D E : List Int) : dropB D E = ((List.range 15).map (dropL D)).any (beqL E) := by
  unfold dropB
  rw [List.any_map]
  congr 1
  funext i
  simp only [Function.comp_apply, beqL_iff]
  by_cases h : dropL D i = E
  · simp [h]
  · have h' : ¬ E = dropL D i := fun e => h e.symm
    simp [h, h']
theorem drop_raised (D E : List Int) (hD : D.length = 16) (hE : E.length = 16) : dropB D E = ((List.range 15).map (raiseL E)).any (beqL D) := by
  unfold dropB
  rw [List.any_map, Bool.eq_iff_iff, List.any_eq_true, List.any_eq_true]
  constructor
  · rintro ⟨i, hi, h⟩
    have hi' := List.mem_range.1 hi
    refine ⟨i, hi, ?_⟩
    simp only [Function.comp_apply, beqL_iff]
    rw [← of_decide_eq_true h, raise_drop D i (by omega)]
    simp
  · rintro ⟨i, hi, h⟩
    have hi' := List.mem_range.1 hi
    refine ⟨i, hi, ?_⟩
    simp only [Function.comp_apply, beqL_iff] at h
    rw [of_decide_eq_true h, drop_raise E i (by omega)]
    simp
theorem covB_cand (P Q : List Int) (hp : valid P = true) (hq : valid Q = true) : covB P Q = ((candP P).any (beqL (pad Q)) || (candC P).any (beqL (pad (conj Q)))) := by
  unfold covB candP candC
  rw [drop_any, drop_raised _ _ (pad_len (valid_bd (valid_conj hq)).2.2.2) (pad_len (valid_bd (valid_conj hp)).2.2.2)]
theorem covB_candU (P E : List Int) (hp : valid P = true) (hq : valid E = true) : covB E P = ((candUP P).any (beqL (pad E)) || (candUC P).any (beqL (pad (conj E)))) := by
  unfold covB candUP candUC
  rw [drop_any (pad (conj P)), drop_raised _ _ (pad_len (valid_bd hq).2.2.2) (pad_len (valid_bd hp).2.2.2)]
theorem tb_all {n : Nat} (hn : n ≤ 12) : tb n = true := by
  obtain rfl | rfl | rfl | rfl | rfl | rfl | rfl | rfl | rfl | rfl | rfl | rfl | rfl : n = 0 ∨ n = 1 ∨ n = 2 ∨ n = 3 ∨ n = 4 ∨ n = 5 ∨ n = 6 ∨ n = 7 ∨ n = 8 ∨ n = 9 ∨ n = 10 ∨ n = 11 ∨ n = 12 := by omega
  · exact tb0
  · exact tb1
  · exact tb2
  · exact tb3
  · exact tb4
  · exact tb5
  · exact tb6
  · exact tb7
  · exact tb8
  · exact tb9
  · exact tb10
  · exact tb11
  · exact tb12
theorem tu_all {n : Nat} (hn : n ≤ 12) : tu n = true := by
  obtain rfl | rfl | rfl | rfl | rfl | rfl | rfl | rfl | rfl | rfl | rfl | rfl | rfl : n = 0 ∨ n = 1 ∨ n = 2 ∨ n = 3 ∨ n = 4 ∨ n = 5 ∨ n = 6 ∨ n = 7 ∨ n = 8 ∨ n = 9 ∨ n = 10 ∨ n = 11 ∨ n = 12 := by omega
  · exact tu0
  · exact tu1
  · exact tu2
  · exact tu3
  · exact tu4
  · exact tu5
  · exact tu6
  · exact tu7
  · exact tu8
  · exact tu9
  · exact tu10
  · exact tu11
  · exact tu12
/-- the model's steps give what the program finds -/
theorem cov_eq {P : List Int} (h : valid P = true) (h12 : sumL P ≤ 12) : srtF (covL P) = cvF P := by
  have hs := valid_bd h
  have h0 : sumL P = ((sumL P).toNat : Int) := (Int.toNat_of_nonneg hs.1).symm
  have ht := tb_all (n := (sumL P).toNat) (by omega)
  unfold tb at ht
  rw [List.all_eq_true] at ht
  have h1 := eq_of_beq (ht P (mem_allQn h h0))
  unfold cvF
  rw [if_pos (by simp [h, h12]), h1]
  refine List.filter_congr fun Q hQ => ?_
  rw [covB_cand P Q h (allQ_ok (by omega) Q hQ).1]
theorem covU_eq {P : List Int} (h : valid P = true) (h12 : sumL P ≤ 12) : srtF ((srtF (covL (conj P))).map conj) = cuF P := by
  have hs := valid_bd h
  have h0 : sumL P = ((sumL P).toNat : Int) := (Int.toNat_of_nonneg hs.1).symm
  have ht := tu_all (n := (sumL P).toNat) (by omega)
  unfold tu at ht
  rw [List.all_eq_true] at ht
  have h1 := eq_of_beq (ht P (mem_allQn h h0))
  unfold cuF
  rw [if_pos (by simp [h, h12]), h1]
  refine List.filter_congr fun Q hQ => ?_
  rw [covB_candU P Q h (allQ_ok (by omega) Q hQ).1]
def tv (n : Nat) : Bool := (allQ n n n).all fun P => (covL P).all fun L => valid L && sumL L == (n : Int)
set_option maxRecDepth 100000 in
theorem tv_tab : (List.range 13).all tv = true := by decide +kernel
theorem covL_ok {P : List Int} (h : valid P = true) (h12 : sumL P ≤ 12) : ∀ L ∈ covL P, valid L = true ∧ sumL L = sumL P := by
  have hs := valid_bd h
  have h0 : sumL P = ((sumL P).toNat : Int) := (Int.toNat_of_nonneg hs.1).symm
  have ht := tv_tab
  rw [List.all_eq_true] at ht
  have h1 := ht (sumL P).toNat (List.mem_range.2 (by omega))
  unfold tv at h1
  rw [List.all_eq_true] at h1
  have h2 := h1 P (mem_allQn h h0)
  rw [List.all_eq_true] at h2
  intro L hL
  have h3 := h2 L hL
  rw [Bool.and_eq_true, beq_iff_eq] at h3
  exact ⟨h3.1, by rw [h3.2]; exact h0.symm⟩
/-- places of parts of one sum are in the order of lists -/
theorem plc_lex : ∀ (A B : List Int) (n m : Int), n ≤ 40 → 0 ≤ m → ex n m A → ex n m B → decide (plc n m A < plc n m B) = lexB A B := by
  intro A
  induction A with
  | nil =>
    intro B n m hn hm hA hB
    obtain rfl := ex_nil hA
    cases B with
    | nil => simp [lexB]
    | cons y q => have := ex_cons hB; omega
  | cons x r ih =>
    intro B n m hn hm hA hB
    cases B with
    | nil => have := ex_nil hB; have := ex_cons hA; omega
    | cons y q =>
      obtain ⟨a1, a2, a3, a4⟩ := ex_cons hA
      obtain ⟨b1, b2, b3, b4⟩ := ex_cons hB
      rw [plc, plc, lexB]
      by_cases h : x = y
      · subst h
        rw [if_pos rfl, ← ih q (n - x) x (by omega) (by omega) a4 b4]
        exact decide_eq_decide.2 (by omega)
      · rw [if_neg h]
        have pa := plc_bd (by omega) (by omega) a4
        have pb := plc_bd (by omega) (by omega) b4
        have ra := ctZ_rec n x (by omega) a1
        have rb := ctZ_rec n y (by omega) b1
        refine decide_eq_decide.2 ?_
        rcases Int.lt_or_lt_of_ne h with hl | hl
        · have l1 := ctZ_le (n := n) hn (by omega) (show x ≤ y - 1 by omega)
          omega
        · have l1 := ctZ_le (n := n) hn (by omega) (show y ≤ x - 1 by omega)
          omega
theorem plc_lexV {A B : List Int} (ha : valid A = true) (hb : valid B = true) (he : sumL A = sumL B) : decide (plc (sumL A) (sumL A) A < plc (sumL B) (sumL B) B) = lexB A B := by
  have hs := valid_bd ha
  have := ex_valid hb
  rw [← he] at this ⊢
  exact plc_lex A B _ _ (by omega) (by omega) (ex_valid ha) this
end Go.Proofs.Ytmojonpjgaidgaa
namespace Go.Proofs.Ytmojonpjgaidgaa
open Go.RowKit NP
set_option maxRecDepth 8000
set_option linter.unusedVariables false
set_option linter.unusedSimpArgs false
def apF (n : Int) : List (List Int) := if 0 ≤ n ∧ n ≤ 12 then allQ n.toNat n.toNat n.toNat else []
theorem apF_yes {n : Nat} (h : n ≤ 12) : apF (n : Int) = allQ n n n := by unfold apF; rw [if_pos (by omega)]; simp
theorem apF_no {n : Int} (h : ¬ (0 ≤ n ∧ n ≤ 12)) : apF n = [] := by unfold apF; rw [if_neg h]

end Go.Proofs.Ytmojonpjgaidgaa
namespace Go.Proofs.Ytmojonpjgaidgaa
open Go.RowKit NP
set_option maxRecDepth 8000
set_option linter.unusedVariables false
set_option linter.unusedSimpArgs false
theorem cntQQ : (List.range 13).all (fun k => decide (cntLL (allQ k k k) ≤ 2000)) = true := by decide +kernel
theorem apF_cnt (n : Int) : cntLL (apF n) ≤ 2000 := by
  unfold apF
  split
  · have := List.all_eq_true.1 cntQQ n.toNat (by simp; omega)
    simpa using this
  · simp [cntLL]
theorem apF_few2 (n : Int) : (apF n).length ≤ 1000 := by
  unfold apF
  split
  · exact allQ_len (by omega)
  · simp
theorem apF_shortTab : (List.range 13).all (fun k => (allQ k k k).all fun X => decide (X.length ≤ 16)) = true := by decide +kernel
theorem apF_short2 (n : Int) : ∀ X ∈ apF n, X.length ≤ 4611686018427387904 := by
  intro X hX
  unfold apF at hX
  split at hX
  · have h1 := List.all_eq_true.1 apF_shortTab n.toNat (by simp; omega)
    have h2 := List.all_eq_true.1 h1 X hX
    simp at h2
    omega
  · simp at hX
end Go.Proofs.Ytmojonpjgaidgaa
namespace Go.Proofs.Ytmojonpjgaidgaa
open NP
set_option linter.unusedVariables false
def apTab : Bool := (List.range 13).all fun n => decide (((allQ n n n).length : Int) = cpF n) && (List.range (allQ n n n).length).all fun k => decide (sumF ((allQ n n n).getD k []) = (n : Int)) && decide (plcF ((allQ n n n).getD k []) = (k : Int))
set_option maxRecDepth 100000 in
theorem apTab_all : apTab = true := by decide +kernel
theorem ap_facts {n : Nat} (hn : n ≤ 12) : ((allQ n n n).length : Int) = cpF n ∧ ∀ k (h : k < (allQ n n n).length), sumF (allQ n n n)[k] = (n : Int) ∧ plcF (allQ n n n)[k] = (k : Int) := by
  have h1 := List.all_eq_true.1 apTab_all n (by simp; omega)
  rw [Bool.and_eq_true] at h1
  refine ⟨by simpa using h1.1, fun k hk => ?_⟩
  have h2 := List.all_eq_true.1 h1.2 k (by simpa using hk)
  rw [List.getD_eq_getElem?_getD, List.getElem?_eq_getElem hk] at h2
  simpa using h2
end Go.Proofs.Ytmojonpjgaidgaa
namespace Go.Proofs.Ytmojonpjgaidgaa
open Go.RowKit NP
set_option linter.unusedVariables false
set_option linter.unusedSimpArgs false
/-- dominance, quickly, of parts of one sum -/
def fdm : List Int → List Int → Int → Bool
  | x :: p, y :: q, c => if 0 ≤ c + x - y then fdm p q (c + x - y) else false
  | _, _, _ => true
def tn (n : Nat) : Bool := (allQ n n n).all fun P => ((covL P).all fun R => lexB P R && !fdm R P 0) && (allQ n n n).all fun Q => if fdm P Q 0 then beqL P Q || (covL P).any (fun R => fdm R Q 0) else true
set_option maxRecDepth 100000 in
theorem tn_tab : (List.range 13).all tn = true := by decide +kernel
theorem fdm_iff : ∀ (P Q : List Int) (c : Int), fdm P Q c = true ↔ ∀ k, 1 ≤ k → k ≤ P.length → k ≤ Q.length → sumL (Q.take k) ≤ c + sumL (P.take k) := by
  intro P
  induction P with
  | nil => intro Q c; simp [fdm]; omega
  | cons x p ih =>
    intro Q c
    cases Q with
    | nil => simp [fdm]; omega
    | cons y q =>
      rw [fdm]
      by_cases h : 0 ≤ c + x - y
      · rw [if_pos h, ih q (c + x - y)]
        constructor
        · intro h1 k k1 k2 k3
          obtain ⟨j, rfl⟩ : ∃ j, k = j + 1 := ⟨k - 1, by omega⟩
          simp only [List.take_succ_cons, sumL]
          rcases Nat.eq_zero_or_pos j with h0 | h0
          · subst h0; simp [sumL]; omega
          · have := h1 j h0 (by simpa using k2) (by simpa using k3)
            omega
        · intro h1 k k1 k2 k3
          have := h1 (k + 1) (by omega) (by simpa using k2) (by simpa using k3)
          simp only [List.take_succ_cons, sumL] at this
          omega
      · rw [if_neg h]
        constructor
        · intro h1; exact absurd h1 (by decide)
        · intro h1
          have := h1 1 (Nat.le_refl _) (by simp) (by simp)
          simp [sumL] at this
          omega
theorem sumL_app (A B : List Int) : sumL (A ++ B) = sumL A + sumL B := by
  induction A with
  | nil => simp [sumL]
  | cons x r ih => rw [List.cons_append, sumL, sumL, ih]; omega
theorem sumL_nn {L : List Int} (h : ∀ x ∈ L, 0 ≤ x) : 0 ≤ sumL L := by
  induction L with
  | nil => simp [sumL]
  | cons x r ih =>
    rw [sumL]
    have := h x List.mem_cons_self
    have := ih fun y hy => h y (List.mem_cons_of_mem _ hy)
    omega
theorem take_mono {L : List Int} (h : ∀ x ∈ L, 0 ≤ x) {j k : Nat} (hj : j ≤ k) : sumL (L.take j) ≤ sumL (L.take k) := by
  have e : L.take k = (L.take k).take j ++ (L.take k).drop j := (List.take_append_drop j _).symm
  rw [List.take_take, Nat.min_eq_left hj] at e
  rw [e, sumL_app]
  have := sumL_nn (L := (L.take k).drop j) fun x hx => h x (List.mem_of_mem_take (List.mem_of_mem_drop hx))
  omega
theorem dom_fdm {P Q : List Int} (hp : valid P = true) (hq : valid Q = true) (hs : sumL P = sumL Q) : dom P Q = fdm P Q 0 := by
  have hnp := valid_nonneg hp
  have hnq := valid_nonneg hq
  have hlp := (valid_bd hp).2.2.2
  rw [Bool.eq_iff_iff, dom_iff, fdm_iff]
  constructor
  · rintro ⟨-, -, -, h⟩ k k1 k2 k3
    have := h k (by omega)
    rw [sumTo_take, sumTo_take] at this
    omega
  · intro h
    refine ⟨hp, hq, hs, fun k hk => ?_⟩
    rw [sumTo_take, sumTo_take]
    have tq := take_mono hnq (Nat.le_max_left k Q.length)
    rw [List.take_of_length_le (Nat.le_max_right k Q.length)] at tq
    by_cases hkp : k ≤ P.length
    · by_cases hkq : k ≤ Q.length
      · rcases Nat.eq_zero_or_pos k with h0 | h0
        · subst h0; simp [sumL]
        · have := h k h0 hkp hkq; omega
      · have e : Q.take k = Q := List.take_of_length_le (by omega)
        rw [e]
        rcases Nat.eq_zero_or_pos Q.length with h0 | h0
        · have : Q = [] := List.length_eq_zero_iff.1 h0
          subst this
          have := take_mono hnp (Nat.zero_le k)
          simpa [sumL] using this
        · have h1 := h Q.length h0 (by omega) (Nat.le_refl _)
          rw [List.take_length] at h1
          have h2 := take_mono hnp (show Q.length ≤ k by omega)
          omega
    · have e : P.take k = P := List.take_of_length_le (by omega)
      rw [e]
      omega
theorem beqL_eq {A B : List Int} (h : beqL A B = true) : A = B := by rw [beqL_iff] at h; exact of_decide_eq_true h
theorem insW_mem (x : List Int) (out : List (List Int)) (L : List Int) : x ∈ insW out L ↔ x ∈ out ∨ x = L := by
  unfold insW
  split
  · have e : x ∈ out ↔ x ∈ out.take (insP out L) ∨ x ∈ out.drop (insP out L) := by rw [← List.mem_append, List.take_append_drop]
    rw [e]
    simp only [List.mem_append, List.mem_singleton]
    constructor
    · rintro ((h | h) | h)
      · exact .inl (.inl h)
      · exact .inr h
      · exact .inl (.inr h)
    · rintro ((h | h) | h)
      · exact .inl (.inl h)
      · exact .inr h
      · exact .inl (.inr h)
  · rename_i h
    have hle : insP out L ≤ out.length := by unfold insP; exact (List.takeWhile_prefix _).length_le
    have hlt : insP out L < out.length := by
      rcases Nat.lt_or_ge (insP out L) out.length with h1 | h1
      · exact h1
      · exact absurd (.inl (by omega)) h
    have hL : out.getD (insP out L) [] = L := Classical.byContradiction fun h2 => h (.inr h2)
    rw [List.getD_eq_getElem?_getD, List.getElem?_eq_getElem hlt, Option.getD_some] at hL
    constructor
    · exact .inl
    · rintro (h1 | rfl)
      · exact h1
      · rw [← hL]; exact List.getElem_mem hlt
theorem fold_mem (x : List Int) : ∀ (all out : List (List Int)), x ∈ all.foldl insW out ↔ x ∈ out ∨ x ∈ all := by
  intro all
  induction all with
  | nil => intro out; simp
  | cons a r ih =>
    intro out
    rw [List.foldl_cons, ih, insW_mem, List.mem_cons]
    constructor
    · rintro ((h | h) | h)
      · exact .inl h
      · exact .inr (.inl h)
      · exact .inr (.inr h)
    · rintro (h | h | h)
      · exact .inl (.inl h)
      · exact .inl (.inr h)
      · exact .inr h
theorem mem_cov {P R : List Int} (h : valid P = true) (h12 : sumL P ≤ 12) : R ∈ cvF P ↔ R ∈ covL P := by
  rw [← cov_eq h h12]
  unfold srtF
  rw [fold_mem]
  simp
/-- the first one below P that dominates Q -/
def nxF (P Q : List Int) : Option (List Int) := (allQ (sumL P).toNat (sumL P).toNat (sumL P).toNat).find? fun R => covB P R && dom R Q
theorem nxF_cv {P : List Int} (Q : List Int) (h : valid P = true) (h12 : sumL P ≤ 12) : nxF P Q = (cvF P).find? fun R => dom R Q := by
  unfold nxF cvF
  rw [if_pos (by simp [h, h12]), List.find?_filter]
  congr 1
  funext a
  simp
theorem tn_out {P : List Int} (h : valid P = true) (h12 : sumL P ≤ 12) : (∀ R ∈ covL P, lexB P R = true ∧ fdm R P 0 = false) ∧ ∀ Q, valid Q = true → sumL Q = sumL P → fdm P Q 0 = true → P ≠ Q → ∃ R ∈ covL P, fdm R Q 0 = true := by
  have hs := valid_bd h
  have h0 : sumL P = ((sumL P).toNat : Int) := (Int.toNat_of_nonneg hs.1).symm
  have ht := List.all_eq_true.1 tn_tab (sumL P).toNat (List.mem_range.2 (by omega))
  unfold tn at ht
  have h1 := List.all_eq_true.1 ht P (mem_allQn h h0)
  rw [Bool.and_eq_true] at h1
  refine ⟨fun R hR => ?_, fun Q hQ hsQ hf hne => ?_⟩
  · have h2 := List.all_eq_true.1 h1.1 R hR
    rw [Bool.and_eq_true, Bool.not_eq_true'] at h2
    exact h2
  · have h2 := List.all_eq_true.1 h1.2 Q (mem_allQn hQ (by omega))
    rw [if_pos hf, Bool.or_eq_true] at h2
    rcases h2 with h2 | h2
    · exact absurd (beqL_eq h2) hne
    · rw [List.any_eq_true] at h2
      exact h2
theorem plcF_lt {n : Nat} (hn : n ≤ 12) {L : List Int} (h : L ∈ allQ n n n) : 0 ≤ plcF L ∧ plcF L < 1000 := by
  obtain ⟨k, hk, rfl⟩ := List.getElem_of_mem h
  have h1 := ((ap_facts hn).2 k hk).2
  have h2 : (allQ n n n).length ≤ 1000 := allQ_len (by omega)
  omega
theorem nx_some {P Q R : List Int} (h : valid P = true) (h12 : sumL P ≤ 12) (hR : nxF P Q = some R) : R ∈ cvF P ∧ valid R = true ∧ sumL R = sumL P ∧ dom R Q = true ∧ plcF P < plcF R := by
  have h1 := hR
  rw [nxF_cv Q h h12] at h1
  have hm := List.mem_of_find?_eq_some h1
  have hd := List.find?_some h1
  have hc := (mem_cov h h12).1 hm
  obtain ⟨hv, hs⟩ := covL_ok h h12 R hc
  refine ⟨hm, hv, hs, hd, ?_⟩
  have hl := ((tn_out h h12).1 R hc).1
  rw [plcF_yes h, plcF_yes hv]
  have := plc_lexV h hv hs.symm
  rw [hl] at this
  exact of_decide_eq_true this
theorem nx_ex {P Q : List Int} (h12 : sumL P ≤ 12) (hd : dom P Q = true) (hne : P ≠ Q) : ∃ R, nxF P Q = some R := by
  obtain ⟨h, hq, hs, -⟩ := dom_iff.1 hd
  rw [dom_fdm h hq hs] at hd
  obtain ⟨R, hR, hf⟩ := (tn_out h h12).2 Q hq hs.symm hd hne
  obtain ⟨hv, hsR⟩ := covL_ok h h12 R hR
  have hdR : dom R Q = true := by rw [dom_fdm hv hq (by omega)]; exact hf
  rw [nxF_cv Q h h12]
  cases hx : (cvF P).find? fun R => dom R Q with
  | some X => exact ⟨X, rfl⟩
  | none =>
    have := List.find?_eq_none.1 hx R ((mem_cov h h12).2 hR)
    exact absurd hdR this
theorem nx_self {P : List Int} (h : valid P = true) (h12 : sumL P ≤ 12) : nxF P P = none := by
  rw [nxF_cv P h h12]
  refine List.find?_eq_none.2 fun R hR => ?_
  have hc := (mem_cov h h12).1 hR
  obtain ⟨hv, hs⟩ := covL_ok h h12 R hc
  rw [dom_fdm hv h hs, ((tn_out h h12).1 R hc).2]
  decide
def mu (P : List Int) : Nat := (1000 - plcF P).toNat
theorem mu_lt {P Q R : List Int} (h : valid P = true) (h12 : sumL P ≤ 12) (hR : nxF P Q = some R) : mu R < mu P := by
  obtain ⟨hm, hv, hs, hd, hp⟩ := nx_some h h12 hR
  have hb := valid_bd hv
  have := plcF_lt (n := (sumL R).toNat) (by omega) (mem_allQn hv (Int.toNat_of_nonneg hb.1).symm)
  unfold mu
  omega
def chF : Nat → List Int → List Int → List (List Int)
  | 0, P, _ => [P]
  | f + 1, P, Q => P :: (match nxF P Q with | none => [] | some R => chF f R Q)
theorem chF_fuel : ∀ (N f : Nat) (P Q : List Int), f ≤ N → valid P = true → sumL P ≤ 12 → mu P ≤ f → chF f P Q = chF (mu P) P Q := by
  intro N
  induction N with
  | zero =>
    intro f P Q hf h h12 hm
    have : mu P = f := by omega
    rw [this]
  | succ N ih =>
    intro f P Q hf h h12 hm
    by_cases he : mu P = f
    · rw [he]
    · obtain ⟨f', rfl⟩ : ∃ f', f = f' + 1 := ⟨f - 1, by omega⟩
      cases hx : nxF P Q with
      | none =>
        cases hmu : mu P with
        | zero => simp [chF, hx]
        | succ m => simp [chF, hx]
      | some R =>
        have hlt := mu_lt h h12 hx
        obtain ⟨-, hv, hs, -, -⟩ := nx_some h h12 hx
        obtain ⟨m, hmu⟩ : ∃ m, mu P = m + 1 := ⟨mu P - 1, by omega⟩
        rw [hmu, chF, chF, hx]
        simp only
        rw [ih f' R Q (by omega) hv (by omega) (by omega), ih m R Q (by omega) hv (by omega) (by omega)]
/-- from P down to Q -/
def chD (P Q : List Int) : List (List Int) := chF (mu P) P Q
theorem chD_step {P Q R : List Int} (h : valid P = true) (h12 : sumL P ≤ 12) (hR : nxF P Q = some R) : chD P Q = P :: chD R Q := by
  have hlt := mu_lt h h12 hR
  obtain ⟨-, hv, hs, -, -⟩ := nx_some h h12 hR
  obtain ⟨m, hmu⟩ : ∃ m, mu P = m + 1 := ⟨mu P - 1, by omega⟩
  unfold chD
  rw [hmu, chF, hR]
  simp only
  rw [chF_fuel m m R Q (Nat.le_refl _) hv (by omega) (by omega)]
theorem chD_end {P Q : List Int} (hR : nxF P Q = none) : chD P Q = [P] := by
  unfold chD
  cases mu P with
  | zero => rfl
  | succ m => rw [chF, hR]
theorem chF_ok : ∀ (f : Nat) (P Q : List Int), valid P = true → sumL P ≤ 12 → (chF f P Q).length ≤ f + 1 ∧ ∀ X ∈ chF f P Q, valid X = true ∧ sumL X = sumL P := by
  intro f
  induction f with
  | zero => intro P Q h h12; simp [chF, h]
  | succ f ih =>
    intro P Q h h12
    rw [chF]
    cases hx : nxF P Q with
    | none => simp [h]
    | some R =>
      obtain ⟨-, hv, hs, -, -⟩ := nx_some h h12 hx
      obtain ⟨h1, h2⟩ := ih R Q hv (by omega)
      refine ⟨by simp only [List.length_cons]; omega, fun X hX => ?_⟩
      rcases List.mem_cons.1 hX with rfl | hX
      · exact ⟨h, rfl⟩
      · obtain ⟨h3, h4⟩ := h2 X hX
        exact ⟨h3, by omega⟩
theorem chD_ok {P : List Int} (Q : List Int) (h : valid P = true) (h12 : sumL P ≤ 12) : (chD P Q).length ≤ 1001 ∧ ∀ X ∈ chD P Q, valid X = true ∧ X.length ≤ 16 ∧ sumL X = sumL P := by
  have hb := valid_bd h
  have := plcF_lt (n := (sumL P).toNat) (by omega) (mem_allQn h (Int.toNat_of_nonneg hb.1).symm)
  obtain ⟨h1, h2⟩ := chF_ok (mu P) P Q h h12
  have hm : mu P ≤ 1000 := by unfold mu; omega
  refine ⟨by unfold chD; omega, fun X hX => ?_⟩
  obtain ⟨h3, h4⟩ := h2 X hX
  exact ⟨h3, (valid_bd h3).2.2.2, h4⟩
end Go.Proofs.Ytmojonpjgaidgaa
