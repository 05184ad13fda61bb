/-
  Walks: cells taken away and put, of the model and of the program. Walks of the program: a marked diagram's parts, split, turned. Walks of the program: ValidMarked, SplitMarked, TurnMarked.
-/
import Derived.Test.YtbbbfaollcklkaaZp1
import Derived.Test.YtbbbfaollcklkaaZp2
import Derived.Test.YtbbbfaollcklkaaZp3
import Derived.Test.YtbbbfaollcklkaaZp4
import Derived.Deep.RegionLaw
namespace Go.Proofs.Ytbbbfaollcklkaa
open Go.RowKit NP
set_option maxRecDepth 8000
set_option linter.unusedVariables false

theorem Own.take {w : World} {lo hi : Nat} {e : TypeId} {a : Option Addr} {n c : Nat} {vs : List Value} (h : Own w lo hi e (.slice a n c) vs) (k : Nat) (hk : k ≤ vs.length) : Own w lo hi e (.slice a k c) (vs.take k) := by
  refine ⟨?_, fun g hg => h.lt g (by cases a with | none => cases hg | some b => exact hg), h.le⟩
  have hlen : (vs.take k).length = k := by simp; omega
  rw [hlen]
  refine ⟨by rw [hlen]; omega, ?_⟩
  rcases h.row.2 with ⟨e1, e2⟩ | ⟨g, cap, cur, e1, hb, hg, hc, hm, hs, ht⟩
  · injection e1 with e3 e4 e5
    subst e3; subst e5
    have : k = 0 := by omega
    subst this
    exact .inl ⟨rfl, rfl⟩
  · injection e1 with e3 e4 e5
    subst e3; subst e5
    refine .inr ⟨g, c, cur, rfl, hb, hg, by omega, hm, hs, ?_⟩
    rw [← ht, List.take_take]
    congr 1
    omega

theorem hasInt_any (a : Option Addr) (c B : Nat) (M : List Int) (n : Int) (w : World) (h : Rd w B a (ints M)) (hl : M.length ≤ 4611686018427387904) :
    Calls Try.prog 57 #[.slice a M.length c, .int .i64 n] w fun e w' => e = .returned (.bool (hasI M n)) ∧ w = w' := by
  go_enter Try.func57, Try.ntmps57
  go_wp2
  go_loop [5] (fun i => ∃ k : Nat, k ≤ M.length ∧ i = .int .i64 k ∧ Hid (∀ j (hj : j < M.length), j < k → M[j] ≠ n)) (fun i => M.length - (intOf i).toNat)
  case atStart => exact ⟨0, Nat.zero_le _, rfl, Lib.hid fun j _ hj => by omega⟩
  case round =>
    obtain ⟨k, hk, rfl, HP⟩ := hrel
    by_cases hlt : k < M.length
    · obtain ⟨b, o, rfl, _, hc⟩ := h.at_ hlt
      by_cases hx : M[k] = n
      · have hxb : (M[k] == n) = true := beq_iff_eq.2 hx
        have HX := Lib.hid hx
        clear hx
        go_wp2
        go_ret
        exact ⟨ret_bool (by unfold hasI; rw [eq_comm, decide_eq_true_eq, ← HX.out]; exact List.getElem_mem hlt), rfl⟩
      · have hxb : (M[k] == n) = false := beq_eq_false_iff_ne.2 hx
        have HX := Lib.hid hx
        clear hx
        go_wp2
        go_round
        case rel => exact ⟨k + 1, by omega, by go_num, Lib.hid fun j hj hjk => by
          rcases Nat.lt_or_ge j k with h | h
          · exact HP.out j hj h
          · obtain rfl : j = k := by omega
            exact HX.out⟩
        case measure => simp [intOf]; omega
    · obtain rfl : k = M.length := by omega
      go_wp2
      go_ret
      exact ⟨ret_bool (by
        unfold hasI
        rw [eq_comm, decide_eq_false_iff_not]
        intro hm
        obtain ⟨j, hj, e⟩ := List.mem_iff_getElem.1 hm
        exact HP.out j hj hj e), rfl⟩


theorem rmvOk_no {L : List Int} (h : valid L = false) (i : Int) : rmvOk L i = false := by simp [rmvOk, h]
theorem rmvOk_yes {L : List Int} (h : valid L = true) (i : Int) : rmvOk L i = hasI (crn L) i := by
  unfold rmvOk crn
  rw [h, Bool.true_and, crnTo_fl, hasI_fl]
theorem rmv_no {L : List Int} {i : Int} (h : rmvOk L i = false) : rmv L i = [] := by simp [rmv, h]
theorem rmv_yes {L : List Int} {i : Int} (h : rmvOk L i = true) : ∃ k : Nat, i = k ∧ k < L.length ∧ isC L k = true ∧ valid L = true ∧ rmv L i = lessL L k := by
  have h2 := h
  unfold rmvOk at h
  simp only [Bool.and_eq_true, decide_eq_true_eq] at h
  obtain ⟨hv, ⟨h0, hlt⟩, hc⟩ := h
  obtain ⟨k, rfl⟩ := Int.eq_ofNat_of_zero_le h0
  refine ⟨k, rfl, by omega, hc, hv, ?_⟩
  unfold rmv
  rw [if_pos h2]
  rfl
theorem own_nil0 (w : World) (lo : Nat) (e : TypeId) : Own w lo w.heap.size e (.slice none ([] : List Int).length 0) (ints []) := Own.nil w lo e

theorem addOk_no {L : List Int} (h : valid L = false) (i : Int) : addOk L i = false := by simp [addOk, h]
theorem addC_no {L : List Int} {i : Int} (h : addOk L i = false) : addC L i = [] := by simp [addC, h]
theorem addC_yes {L : List Int} {i : Int} (h : addOk L i = true) : addC L i = addL L i.toNat := by simp [addC, h]
theorem addOk_at {L : List Int} (hv : valid L = true) {k : Nat} (hk : k ≤ L.length) : addOk L k = valid (addL L k) := by
  unfold addOk
  rw [hv, decide_eq_true (by omega : (0 : Int) ≤ (k : Int)), decide_eq_true (by omega : (k : Int) ≤ (L.length : Int))]
  rfl
theorem addOk_out {L : List Int} {i : Int} (h : ¬ (0 ≤ i ∧ i ≤ L.length)) : addOk L i = false := by
  unfold addOk
  rcases Int.lt_or_le i 0 with h0 | h0
  · rw [decide_eq_false (by omega : ¬ 0 ≤ i)]; simp
  · rw [decide_eq_false (by omega : ¬ i ≤ (L.length : Int))]; simp
theorem Blk.drs {w : World} {g : Nat} {t : TypeId} {cs : Array Value} (h : Blk w g t cs) (n : Nat) : Blk (w.drewN n) g t cs := h

end Go.Proofs.Ytbbbfaollcklkaa
namespace Go.Proofs.Ytbbbfaollcklkaa
open Go.RowKit NP
set_option maxRecDepth 100000
set_option linter.unusedVariables false
set_option linter.unusedSimpArgs false
theorem mdA_pre (D : List Int) (E : List Bool) : ∀ j (v : Value), (arr D)[j]? = some v → (mdA D E)[0 + j]? = some v := fun j v hv => by
  have hj : j < D.length := by have h1 := (Array.getElem?_eq_some_iff.1 hv).1; rwa [arr_size] at h1
  rw [arr_get D j hj] at hv
  rw [Nat.zero_add, mdA_int D E j hj]
  exact hv
theorem bls_one (E : List Bool) : ∀ v ∈ bls E, v.oneCell' = true := fun v hv => by
  obtain ⟨x, -, rfl⟩ := List.mem_map.1 hv; rfl
theorem cntD_padM {M : List Int} (hM : valid M = true) : cntD (pad M) = M.length := by
  have hlen : M.length ≤ 16 := (valid_bd hM).2.2.2
  unfold cntD
  refine ff_eq (fun j hj => ?_) hlen ?_
  · have h1 := preS_of_valid hM j hj hj
    rw [List.getD_eq_getElem?_getD, List.getElem?_eq_getElem (by rw [pad_len hlen]; omega), Option.getD_some, pad_get hlen hj]
    simp; omega
  · rcases Nat.lt_or_ge M.length 16 with h | h
    · right
      rw [List.getD_eq_getElem?_getD, List.getElem?_eq_getElem (by rw [pad_len hlen]; omega), Option.getD_some, pad_get0 hlen (Nat.le_refl _) h]
      simp
    · left; omega
theorem mk_cells {w : World} {g : Nat} {t : TypeId} {D : List Int} {bs : List Bool} (hD : D.length = 16) (hb : Blk w g t (mdA D (padB bs))) (hl : bs.length ≤ 16) : ∀ j v, (bls bs)[j]? = some v → w.cell? ((⟨g, 16, none⟩ : Addr).add j) = some v := fun j v hv => by
  have hj : j < bs.length := by have := (List.getElem?_eq_some_iff.1 hv).1; simpa using this
  rw [Addr.add_lit, hb.cell (16 + j), mdA_bool D _ hD j (by rw [padB_len hl]; omega), ← hv]
  have e := padB_getD bs j
  rw [List.getD_eq_getElem?_getD, List.getElem?_eq_getElem (by rw [padB_len hl]; omega), Option.getD_some, List.getD_eq_getElem?_getD, List.getElem?_eq_getElem hj, Option.getD_some] at e
  rw [e]
  simp [hj]
theorem run_make_bools {P : Program} (t e : TypeId) (i : TypeInfo) (h1 : P.underlying t = some (.slice e)) (h2 : P.info? e = some i) (h3 : i.zero = some (.bool false)) (h4 : i.size = 1) (h5 : i.bytes = 1)
    (n : Nat) (hn : n ≤ 4194304) (w : World) :
    (Instr.makeSlice t (.int .i64 n) (.int .i64 n)).run P w = .ok (.slice (some ⟨w.heap.size, 0, none⟩) n n) (w.alloc (.cells (arrB (List.replicate n false)) e)) := by
  have hrun := run_make (P := P) w t e i (.bool false) h1 h2 h3 .i64 .i64 n n (by omega) (by omega) (by rw [h5]; omega) (by omega)
  rw [h4] at hrun
  simp only [Int.toNat_natCast, Nat.mul_one] at hrun
  rw [hrun]
  congr 3
  apply Array.toList_inj.1
  simp [Value.cells, toList_madeCells_one, bls, arrB]
theorem T_bool : (Try.prog.info? 4).map (fun i => (i.zero, i.size, i.bytes)) = some (some (.bool false), 1, 1) := by kernel_rfl
/-- marked parts in memory of the call's own: the marks first, then the parts -/
def OwnM (w : World) (lo hi : Nat) (a1 a2 : Option Addr) (L : List Int) (bs : List Bool) : Prop :=
  ∃ m, lo ≤ m ∧ m ≤ hi ∧ Own w lo m 4 (.slice a2 bs.length bs.length) (bls bs) ∧ Own w m hi 3 (.slice a1 L.length L.length) (ints L)
set_option maxHeartbeats 4000000 in
theorem mparts_any (L : List Int) (bs : List Bool) (hv : valid L = true) (hlen : bs.length = L.length) (w : World) :
    Calls Try.prog 49 #[.agg (mdA (pad L) (padB bs))] w fun e w' => ∃ a1 a2, e = .returned (.agg #[.slice a1 L.length L.length, .slice a2 bs.length bs.length]) ∧ OwnM w' w.heap.size w'.heap.size a1 a2 L bs ∧ Below w.heap.size w w' := by
  have hu := Try.underlying50
  have hbd := valid_bd hv
  have hl16 := hbd.2.2.2
  have hb16 : bs.length ≤ 16 := by omega
  have hpl := pad_len hl16
  have hff : cntD (pad L) = L.length := by
    have := cntD_padM hv
    exact this
  have HF := Lib.hid hff
  have HV := Lib.hid hv
  have HPL := Lib.hid hpl
  have hi16 : (Try.prog.info? 50).map (·.size) = some (arr (pad L)).size := by rw [arr_size, hpl]; exact T_info35
  obtain ⟨ib, hib, hx0, hx1, hx2⟩ := info_parts T_bool
  have hmk := run_make_bools 23 4 ib Try.underlying23 hib hx0 hx1 hx2 L.length (by omega)
  have hpre := mdA_pre (pad L) (padB bs)
  have HLEN := Lib.hid hlen
  have hb0 := (Blk.new w 53 (mdA (pad L) (padB bs))).alloc (.cells #[.slice none 0 0, .slice none 0 0] 28)
  have hr0 : Blk ((w.alloc (.cells (mdA (pad L) (padB bs)) 53)).alloc (.cells #[.slice none 0 0, .slice none 0 0] 28)) (w.heap.size + 1) 28 #[.slice none 0 0, .slice none 0 0] := by
    have e := Blk.new (w.alloc (.cells (mdA (pad L) (padB bs)) 53)) 28 #[.slice none 0 0, .slice none 0 0]
    rw [World.size_alloc] at e
    exact e
  have hA0 : Below w.heap.size w ((w.alloc (.cells (mdA (pad L) (padB bs)) 53)).alloc (.cells #[.slice none 0 0, .slice none 0 0] 28)) := ((Below.refl _ _).alloc (Nat.le_refl _) _).alloc (by simp) _
  obtain ⟨W, hW⟩ : ∃ W, (w.alloc (.cells (mdA (pad L) (padB bs)) 53)).alloc (.cells #[.slice none 0 0, .slice none 0 0] 28) = W := ⟨_, rfl⟩
  have hWs : w.heap.size + 2 = W.heap.size := by rw [← hW]; simp
  rw [hW] at hb0 hr0 hA0
  have HWs := Lib.hid hWs
  clear hv hff hlen hWs
  have hOB := bls_one bs
  have hi2 : (Try.prog.info? 28).map (·.size) = some 2 := T_mk
  have hWs : w.heap.size + 2 = W.heap.size := HWs.out
  have hzz : w.heap.size ≤ W.heap.size := by omega
  clear hWs
  go_enter Try.func49, Try.ntmps49
  go_wp2_with (first
    | (refine wpList_load_at rfl 50 (.tmp 4) rfl w.heap.size 0 rfl 53 (mdA (pad L) (padB bs)) (arr (pad L)) _ hb0 hu rfl hi16 hpre ?_)
    | (go_at_call 73; refine (count_any (pad L) HPL.out _).mono ?_; rintro e w1 ⟨rfl, hb1⟩; rw [HF.out]; have hbk := hb0.below hb1 hb0.lt; have hrk := hr0.below hb1 hr0.lt; have hz1 := hb1.size; have hbe1 := hA0.trans (hb1.mono hzz))
    | ((with_reducible show wpList _ _ _ (Oper.mk _ (Op.call (Call.mk (Callee.builtin Builtin.copy) _ _)) _ _ _ _ :: _) _ _); go_loud (refine wpList_copy_splice rfl (.tmp 8) (.tmp 10) 23 23 rfl 4 Try.underlying23 (by rw [hib]; simp [hx1]) (some ⟨w1.heap.size, 0, none⟩) (some ⟨w.heap.size, 16, none⟩) L.length L.length 16 16 rfl rfl w1.heap.size 0 (bls (List.replicate L.length false)) 4 (heap_alloc_new w1 _) (bls bs) (by rw [show Nat.min 16 L.length = L.length from Nat.min_eq_right hl16]; simp [HLEN.out]) (fun _ => ⟨rfl, _, rfl, mk_cells hpl (hbk.alloc _) hb16⟩) (by simp [HLEN.out]) hOB w1.heap.size w1 ((Below.refl _ _).alloc (Nat.le_refl _) _) (Nat.le_refl _) ?_); intro w2 hg2 hb2; have hbk2 := hbk.below hb2 hbk.lt; have hrk2 := hrk.below hb2 hrk.lt; have hz2 := hb2.size; have hbe2 := hbe1.trans (hb2.mono (by omega)))
    | (refine wpList_load_at rfl 50 (.tmp 12) rfl w.heap.size 0 rfl 53 (mdA (pad L) (padB bs)) (arr (pad L)) _ hbk2 hu rfl hi16 hpre ?_)
    | (go_at_call 69; refine (list_any L HV.out _).mono ?_; rintro e w3 ⟨u, rfl, hu3, hb3⟩; have HU3 := Lib.hid hu3; clear hu3; have hrk3 := hrk2.below hb3 hrk2.lt)
    | (refine wpList_store_row rfl 28 (.tmp 2) (.tmp 16) rfl (w.heap.size + 1) rfl #[.slice u L.length L.length, .slice (some ⟨w1.heap.size, 0, none⟩) L.length L.length] rfl 28 _ hrk3 hi2 rfl (by simp [Value.oneCell']) ?_))
  refine bodyPost_ret (results_cell_row rfl _ _ (w.heap.size + 1) 28 #[.slice u L.length L.length, .slice (some ⟨w1.heap.size, 0, none⟩) L.length L.length] (0, 0) _ rfl hrk3.row Try.underlying28 rfl hi2) rfl ?_
  have hbel := hbe2.trans (hb3.mono hbe2.size)
  have hWs2 := HWs.out
  have hg3 : Blk w2 w1.heap.size 4 (bls bs).toArray := by
    have e := hg2.out
    rw [splice_all _ _ (by simp [HLEN.out])] at e
    exact e
  have ho2 := hg3.own (lo := w.heap.size) (by omega) (by simp [maxLen]; omega)
  simp only [bls, List.length_map] at ho2
  have ho3 : Own (w3.setRow (w.heap.size + 1) #[.slice u L.length L.length, .slice (some ⟨w1.heap.size, 0, none⟩) L.length L.length]) w.heap.size w2.heap.size 4 (.slice (some ⟨w1.heap.size, 0, none⟩) bs.length bs.length) (bls bs) := (ho2.below hb3).keep (by simp) (fun g hg => by
    simp [Value.ownBlock] at hg
    subst hg
    exact setRow_other _ _ _ _ (by omega))
  have ho4 : Own (w3.setRow (w.heap.size + 1) #[.slice u L.length L.length, .slice (some ⟨w1.heap.size, 0, none⟩) L.length L.length]) w2.heap.size w3.heap.size 3 (.slice u L.length L.length) (ints L) := HU3.out.keep (by simp) (fun g hg => by
    have := HU3.out.base g hg
    exact setRow_other _ _ _ _ (by omega))
  refine ⟨u, some ⟨w1.heap.size, 0, none⟩, by rw [HLEN.out], ⟨w2.heap.size, by omega, by simpa using hb3.size, ho3, by simpa using ho4⟩, below_setRow' hbel (by omega) _⟩
set_option maxHeartbeats 4000000 in
theorem msplit_any (L : List Int) (bs : List Bool) (hv : valid L = true) (hlen : bs.length = L.length) (w : World) :
    Calls Try.prog 44 #[.agg (mdA (pad L) (padB bs))] w fun e w' => ∃ aT cT aF cF, e = .returned (.tuple #[.slice aT (sel true L bs L.length).length cT, .slice aF (sel false L bs L.length).length cF]) ∧ Own w' w.heap.size w'.heap.size 3 (.slice aT (sel true L bs L.length).length cT) (ints (sel true L bs L.length)) ∧ Own w' w.heap.size w'.heap.size 3 (.slice aF (sel false L bs L.length).length cF) (ints (sel false L bs L.length)) ∧ (∀ g, Value.ownBlock (.slice aT (sel true L bs L.length).length cT) = some g → Value.ownBlock (.slice aF (sel false L bs L.length).length cF) = some g → False) ∧ Below w.heap.size w w' := by
  have hu := Try.underlying50
  have hbd := valid_bd hv
  have hl16 := hbd.2.2.2
  have hb16 : bs.length ≤ 16 := by omega
  have hpl := pad_len hl16
  have HV := Lib.hid hv
  have HPL := Lib.hid hpl
  have hi16 : (Try.prog.info? 50).map (·.size) = some (arr (pad L)).size := by rw [arr_size, hpl]; exact T_info35
  obtain ⟨i0, hi, hx0, hx1, hx2⟩ := T_int'
  have hpre := mdA_pre (pad L) (padB bs)
  have HLEN := Lib.hid hlen
  have hb0 := Blk.new w 53 (mdA (pad L) (padB bs))
  have hA0 : Below w.heap.size w (w.alloc (.cells (mdA (pad L) (padB bs)) 53)) := (Below.refl _ _).alloc (Nat.le_refl _) _
  clear hv hlen
  go_enter Try.func44, Try.ntmps44
  go_wp2_with (first
    | (refine wpList_load_at rfl 50 (.tmp 8) rfl w.heap.size 0 rfl 53 (mdA (pad L) (padB bs)) (arr (pad L)) _ hb0 hu rfl hi16 hpre ?_)
    | (go_at_call 69; refine (list_any L HV.out _).mono ?_; rintro e w1 ⟨u, rfl, hu1, hb1⟩; have HU1 := Lib.hid hu1; clear hu1; have hbk := hb0.below hb1 hb0.lt; have hbe1 := hA0.trans (hb1.mono (by simp))))
  have hz1 := hb1.size
  rw [World.size_alloc] at hz1
  have hRL := HU1.out.rd
  go_loopw [4, 5, 12] (fun vT vF i wr => ∃ k : Nat, k ≤ L.length ∧ i = .int .i64 k ∧ Below w1.heap.size w1 wr ∧ Own wr w1.heap.size wr.heap.size 3 vT (ints (sel true L bs k)) ∧ Own wr w1.heap.size wr.heap.size 3 vF (ints (sel false L bs k)) ∧ (∀ g, vT.ownBlock = some g → vF.ownBlock = some g → False)) (fun _ _ i _ => 20 - (intOf i).toNat)
  case atStart => exact ⟨0, Nat.zero_le _, rfl, Below.refl _ _, Own.nil _ _ _, Own.nil _ _ _, fun g hg => by simp [Value.ownBlock] at hg⟩
  case round =>
    obtain ⟨k, hk, rfl, hbel, hoT, hoF, hap⟩ := hrel
    have HAP := Lib.hid hap
    have hbs := hbel.size
    clear hap
    by_cases hlt : k < L.length
    · have hlt' : (k : Int) < (L.length : Int) := by omega
      have hk16 : (k : Int) < 16 := by omega
      obtain ⟨b1, o1, rfl, -, hc1⟩ := (hRL.below hbel).at_ hlt
      have hbq := hbk.below hbel hbk.lt
      have hPB : k < (padB bs).length := by rw [padB_len hb16]; omega
      have hcm : wr.cell? ⟨w.heap.size, 16 + k, none⟩ = some (.bool ((padB bs)[k]'hPB)) := by rw [hbq.cell (16 + k), mdA_bool _ _ HPL.out k hPB]
      have HMK0 : Hid ((padB bs)[k]'hPB = bs.getD k false) := Lib.hid (by
        have e := padB_getD bs k
        rw [List.getD_eq_getElem?_getD, List.getElem?_eq_getElem hPB] at e
        exact e)
      have HX : Hid (L.getD k 0 = L[k]) := Lib.hid (getD_lt hlt)
      generalize (padB bs)[k]'hPB = m at hcm HMK0
      generalize L[k] = x at hc1 HX
      have HMK : Hid (bs.getD k false = m) := Lib.hid HMK0.out.symm
      clear hbq HMK0 hPB
      cases m with
        | true =>
          have HS1 : Hid (sel true L bs (k + 1) = sel true L bs k ++ [x]) := Lib.hid (by rw [sel_succ, if_pos HMK.out, HX.out])
          have HS2 : Hid (sel false L bs (k + 1) = sel false L bs k) := Lib.hid (by rw [sel_succ, if_neg (by rw [HMK.out]; simp), List.append_nil])
          have HOT := Lib.hid hoT
          have HOF := Lib.hid hoF
          have hlv : (ints (sel true L bs k)).length ≤ 16 := by rw [List.length_map]; have := sel_len true L bs k; omega
          clear hoT hoF
          generalize hgs : ints (sel true L bs k) = A at HOT hlv
          have HGS := Lib.hid hgs
          clear hgs
          go_wp2_with (at_builtin; refine wpList_append_o _ rfl (.tmp 21) (.tmp 23) 22 rfl w1.heap.size wr.heap.size 3 i0 (.int .i64 0) 8 Try.underlying22 hi hx0 hx1 hx2 rfl _ (A) rfl (HOT.out.alloc _) (wr.heap.size + 1) (some ⟨wr.heap.size, 0, none⟩) 1 1 [.int .i64 x] rfl (Rd.one wr _ _) rfl (by simp; rfl) (by unfold maxLen; omega) (by omega) (by simp; omega) ?_; intro v' w2 ho1 hg1 hat1)
          go_roundw
          case rel =>
            have hg2 : (wr.alloc (.cells #[.int .i64 x] 3)).grownBy w2 u4.ownBlock := hg1
            have hat2 : v'.ownBlock = u4.ownBlock ∨ v'.ownBlock = some (wr.alloc (.cells #[.int .i64 x] 3)).heap.size := hat1
            have hof : Own w2 w1.heap.size w2.heap.size 3 u5 (ints (sel false L bs (k + 1))) := by
              rw [HS2.out]
              exact ((HOF.out.alloc (.cells #[.int .i64 x] 3)).grown hg2 (by
                cases hb : Value.ownBlock u5 with
                | none => exact .inl rfl
                | some g => exact .inr fun e => HAP.out g e.symm hb)).more
            have hot : Own w2 w1.heap.size w2.heap.size 3 v' (ints (sel true L bs (k + 1))) := by
              rw [HS1.out, ints, List.map_append, ← ints, HGS.out]
              exact ho1
            refine ⟨k + 1, by omega, by go_num, below_push hbel (Nat.le_refl _) hg1 HOT.out.base, hot, hof, fun g hgT hgF => ?_⟩
            rcases hat2 with e | e
            · rw [e] at hgT
              exact HAP.out g hgT hgF
            · rw [e] at hgT
              have h5 := HOF.out.lt g hgF
              simp at hgT
              omega
          case measure => simp [intOf] <;> omega
        | false =>
          have HS1 : Hid (sel false L bs (k + 1) = sel false L bs k ++ [x]) := Lib.hid (by rw [sel_succ, if_pos HMK.out, HX.out])
          have HS2 : Hid (sel true L bs (k + 1) = sel true L bs k) := Lib.hid (by rw [sel_succ, if_neg (by rw [HMK.out]; simp), List.append_nil])
          have HOT := Lib.hid hoF
          have HOF := Lib.hid hoT
          have hlv : (ints (sel false L bs k)).length ≤ 16 := by rw [List.length_map]; have := sel_len false L bs k; omega
          clear hoT hoF
          generalize hgs : ints (sel false L bs k) = A at HOT hlv
          have HGS := Lib.hid hgs
          clear hgs
          go_wp2_with (at_builtin; refine wpList_append_o _ rfl (.tmp 25) (.tmp 27) 22 rfl w1.heap.size wr.heap.size 3 i0 (.int .i64 0) 8 Try.underlying22 hi hx0 hx1 hx2 rfl _ (A) rfl (HOT.out.alloc _) (wr.heap.size + 1) (some ⟨wr.heap.size, 0, none⟩) 1 1 [.int .i64 x] rfl (Rd.one wr _ _) rfl (by simp; rfl) (by unfold maxLen; omega) (by omega) (by simp; omega) ?_; intro v' w2 ho1 hg1 hat1)
          go_roundw
          case rel =>
            have hg2 : (wr.alloc (.cells #[.int .i64 x] 3)).grownBy w2 u5.ownBlock := hg1
            have hat2 : v'.ownBlock = u5.ownBlock ∨ v'.ownBlock = some (wr.alloc (.cells #[.int .i64 x] 3)).heap.size := hat1
            have hof : Own w2 w1.heap.size w2.heap.size 3 u4 (ints (sel true L bs (k + 1))) := by
              rw [HS2.out]
              exact ((HOF.out.alloc (.cells #[.int .i64 x] 3)).grown hg2 (by
                cases hb : Value.ownBlock u4 with
                | none => exact .inl rfl
                | some g => exact .inr fun e => HAP.out g hb e.symm)).more
            have hot : Own w2 w1.heap.size w2.heap.size 3 v' (ints (sel false L bs (k + 1))) := by
              rw [HS1.out, ints, List.map_append, ← ints, HGS.out]
              exact ho1
            refine ⟨k + 1, by omega, by go_num, below_push hbel (Nat.le_refl _) hg1 HOT.out.base, hof, hot, fun g hgT hgF => ?_⟩
            rcases hat2 with e | e
            · rw [e] at hgF
              exact HAP.out g hgT hgF
            · rw [e] at hgF
              have h5 := HOF.out.lt g hgT
              simp at hgF
              omega
          case measure => simp [intOf] <;> omega
    · obtain rfl : k = L.length := by omega
      obtain ⟨aT, cT, rfl⟩ := hoT.form
      obtain ⟨aF, cF, rfl⟩ := hoF.form
      rw [List.length_map] at hoT hoF
      rw [List.length_map, List.length_map] at HAP
      have HOT := Lib.hid hoT
      have HOF := Lib.hid hoF
      simp only [List.length_map]
      clear hoT hoF
      go_wp2_with fail
      go_ret2
      exact ⟨aT, cT, aF, cF, rfl, HOT.out.lower (by omega), HOF.out.lower (by omega), HAP.out, hbe1.trans (hbel.mono (by omega))⟩
set_option maxHeartbeats 4000000 in
theorem mturned_any (L : List Int) (bs : List Bool) (hv : valid L = true) (hlen : bs.length = L.length) (w : World) :
    Calls Try.prog 65 #[.agg (mdA (pad L) (padB bs))] w fun e w' => e = .returned (.agg (mdA (pad (conj L)) (padB (tnM L bs)))) ∧ Below w.heap.size w w' := by
  have hu := Try.underlying50
  have hum := Try.underlying53
  have hbd := valid_bd hv
  have hl16 := hbd.2.2.2
  have hb16 : bs.length ≤ 16 := by omega
  have hpl := pad_len hl16
  have hcv := valid_conj hv
  have hcl := (valid_bd hcv).2.2.2
  have hpc := pad_len hcl
  have HPC := Lib.hid hpc
  have HPL := Lib.hid hpl
  have HPN := Lib.hid (pad_nonneg hv)
  have HCP : Hid (acc (pad L) 16 0 = pad (conj L)) := Lib.hid ((acc_end (pad L) hpl).trans (conj_pad hv))
  have HST : Hid (stM (fl (isCD (pad (conj L))) 16) (fun i => bs.getD ((conj L).getD i 0 - 1).toNat false) = padB (tnM L bs)) := Lib.hid (stM_pad hcv _)
  have HAT := Lib.hid (fun i (hi : i < (conj L).length) => pad_at hcv hi)
  have HFM := Lib.hid (fun x hx => fl_mem (p := isCD (pad (conj L))) (n := 16) (x := x) hx)
  have HLT := Lib.hid (fun i (hi : isCD (pad (conj L)) i = true) => isCD_lt hcv hi)
  have hfl := fl_len (isCD (pad (conj L))) 16
  have hi16 : (Try.prog.info? 50).map (·.size) = some (arr (pad L)).size := by rw [arr_size, hpl]; exact T_info35
  have hpre := mdA_pre (pad L) (padB bs)
  have hb0 := (Blk.new w 53 (mdA (pad L) (padB bs))).alloc (.cells #[.int .i64 0, .int .i64 0, .int .i64 0, .int .i64 0, .int .i64 0, .int .i64 0, .int .i64 0, .int .i64 0, .int .i64 0, .int .i64 0, .int .i64 0, .int .i64 0, .int .i64 0, .int .i64 0, .int .i64 0, .int .i64 0, .bool false, .bool false, .bool false, .bool false, .bool false, .bool false, .bool false, .bool false, .bool false, .bool false, .bool false, .bool false, .bool false, .bool false, .bool false, .bool false] 53)
  have hr0 : Blk ((w.alloc (.cells (mdA (pad L) (padB bs)) 53)).alloc (.cells #[.int .i64 0, .int .i64 0, .int .i64 0, .int .i64 0, .int .i64 0, .int .i64 0, .int .i64 0, .int .i64 0, .int .i64 0, .int .i64 0, .int .i64 0, .int .i64 0, .int .i64 0, .int .i64 0, .int .i64 0, .int .i64 0, .bool false, .bool false, .bool false, .bool false, .bool false, .bool false, .bool false, .bool false, .bool false, .bool false, .bool false, .bool false, .bool false, .bool false, .bool false, .bool false] 53)) (w.heap.size + 1) 53 #[.int .i64 0, .int .i64 0, .int .i64 0, .int .i64 0, .int .i64 0, .int .i64 0, .int .i64 0, .int .i64 0, .int .i64 0, .int .i64 0, .int .i64 0, .int .i64 0, .int .i64 0, .int .i64 0, .int .i64 0, .int .i64 0, .bool false, .bool false, .bool false, .bool false, .bool false, .bool false, .bool false, .bool false, .bool false, .bool false, .bool false, .bool false, .bool false, .bool false, .bool false, .bool false] := by
    have e := Blk.new (w.alloc (.cells (mdA (pad L) (padB bs)) 53)) 53 #[.int .i64 0, .int .i64 0, .int .i64 0, .int .i64 0, .int .i64 0, .int .i64 0, .int .i64 0, .int .i64 0, .int .i64 0, .int .i64 0, .int .i64 0, .int .i64 0, .int .i64 0, .int .i64 0, .int .i64 0, .int .i64 0, .bool false, .bool false, .bool false, .bool false, .bool false, .bool false, .bool false, .bool false, .bool false, .bool false, .bool false, .bool false, .bool false, .bool false, .bool false, .bool false]
    rw [World.size_alloc] at e
    exact e
  have hA0 : Below w.heap.size w ((w.alloc (.cells (mdA (pad L) (padB bs)) 53)).alloc (.cells #[.int .i64 0, .int .i64 0, .int .i64 0, .int .i64 0, .int .i64 0, .int .i64 0, .int .i64 0, .int .i64 0, .int .i64 0, .int .i64 0, .int .i64 0, .int .i64 0, .int .i64 0, .int .i64 0, .int .i64 0, .int .i64 0, .bool false, .bool false, .bool false, .bool false, .bool false, .bool false, .bool false, .bool false, .bool false, .bool false, .bool false, .bool false, .bool false, .bool false, .bool false, .bool false] 53)) := ((Below.refl _ _).alloc (Nat.le_refl _) _).alloc (by simp) _
  obtain ⟨W, hW⟩ : ∃ W, (w.alloc (.cells (mdA (pad L) (padB bs)) 53)).alloc (.cells #[.int .i64 0, .int .i64 0, .int .i64 0, .int .i64 0, .int .i64 0, .int .i64 0, .int .i64 0, .int .i64 0, .int .i64 0, .int .i64 0, .int .i64 0, .int .i64 0, .int .i64 0, .int .i64 0, .int .i64 0, .int .i64 0, .bool false, .bool false, .bool false, .bool false, .bool false, .bool false, .bool false, .bool false, .bool false, .bool false, .bool false, .bool false, .bool false, .bool false, .bool false, .bool false] 53) = W := ⟨_, rfl⟩
  have hWs : w.heap.size + 2 ≤ W.heap.size := by rw [← hW]; simp
  rw [hW] at hb0 hr0 hA0
  obtain ⟨C, hC⟩ : ∃ C, C = conj L := ⟨_, rfl⟩
  rw [← hC] at hcv hcl hpc HPC HCP HST HAT HFM HLT hfl ⊢
  have hB1' : ∀ w : World, (Instr.build 53 #[(0, .agg (arr (pad C)))]).run Try.prog w = .ok (.agg (mdA (pad C) (List.replicate 16 false))) w := fun w => T_bmd (pad C) hpc w
  have hiC : (Try.prog.info? 50).map (·.size) = some (arr (pad C)).size := by rw [arr_size, hpc]; exact T_info35
  have hiM : ∀ E : List Bool, E.length = 16 → (Try.prog.info? 53).map (·.size) = some (mdA (pad C) E).size := fun E hE => by rw [mdA_size, hpc, hE]; exact T_md
  have HIM := Lib.hid hiM
  have hpreC := fun E => mdA_pre (pad C) E
  obtain ⟨Y, hY⟩ : ∃ Y, Y = mdA (pad C) (List.replicate 16 false) := ⟨_, rfl⟩
  have hiY : (Try.prog.info? 53).map (·.size) = some Y.size := by rw [hY]; exact hiM _ (by simp)
  have hszY : Y.size = (#[.int .i64 0, .int .i64 0, .int .i64 0, .int .i64 0, .int .i64 0, .int .i64 0, .int .i64 0, .int .i64 0, .int .i64 0, .int .i64 0, .int .i64 0, .int .i64 0, .int .i64 0, .int .i64 0, .int .i64 0, .int .i64 0, .bool false, .bool false, .bool false, .bool false, .bool false, .bool false, .bool false, .bool false, .bool false, .bool false, .bool false, .bool false, .bool false, .bool false, .bool false, .bool false] : Array Value).size := by rw [hY, mdA_size, hpc]; rfl
  have honeY : ∀ v ∈ Y.toList, v.oneCell' = true := by rw [hY]; exact mdA_one _ _
  have hpreY : ∀ j (v : Value), (arr (pad C))[j]? = some v → Y[0 + j]? = some v := by rw [hY]; exact hpreC _
  rw [← hY] at hB1'
  have HY := Lib.hid hY
  obtain ⟨F, hF⟩ : ∃ F, F = fl (isCD (pad C)) 16 := ⟨_, rfl⟩
  have HDC : Hid (∀ w, Calls Try.prog 47 #[.agg (arr (pad C))] w fun e w' => ∃ a' c', e = .returned (.slice a' F.length c') ∧ Own w' w.heap.size w'.heap.size 3 (.slice a' F.length c') (ints F) ∧ Below w.heap.size w w') := Lib.hid (fun w => by rw [hF]; exact dcorners_any (pad C) hpc w)
  rw [← hF] at HST HFM hfl
  clear hv hcv hC hY hF hiM hpreC
  go_enter Try.func65, Try.ntmps65
  go_wp2_with (first
    | (refine wpList_load_at rfl 50 (.tmp 6) rfl w.heap.size 0 rfl 53 (mdA (pad L) (padB bs)) (arr (pad L)) _ hb0 hu rfl hi16 hpre ?_)
    | (go_at_call 83; refine (conjugate_any (pad L) HPL.out HPN.out _).mono ?_; rintro e w1 ⟨rfl, hb1⟩; rw [HCP.out]; have hbk := hb0.below hb1 hb0.lt; have hrk := hr0.below hb1 hr0.lt; have hz1 := hb1.size; have hbe1 := hA0.trans (hb1.mono (by omega)))
    | (refine wpList_exec rfl (exec_build1 (u1 := .agg (arr (pad C))) (v := .agg Y) 53 (.tmp 8) rfl rfl (hB1' _)) ?_)
    | (refine wpList_store_row rfl 53 (.tmp 3) (.tmp 9) rfl w1.heap.size rfl Y rfl 53 #[.int .i64 0, .int .i64 0, .int .i64 0, .int .i64 0, .int .i64 0, .int .i64 0, .int .i64 0, .int .i64 0, .int .i64 0, .int .i64 0, .int .i64 0, .int .i64 0, .int .i64 0, .int .i64 0, .int .i64 0, .int .i64 0, .bool false, .bool false, .bool false, .bool false, .bool false, .bool false, .bool false, .bool false, .bool false, .bool false, .bool false, .bool false, .bool false, .bool false, .bool false, .bool false] (Blk.new w1 _ _) hiY hszY honeY ?_; have hB5 := (Blk.new w1 53 #[.int .i64 0, .int .i64 0, .int .i64 0, .int .i64 0, .int .i64 0, .int .i64 0, .int .i64 0, .int .i64 0, .int .i64 0, .int .i64 0, .int .i64 0, .int .i64 0, .int .i64 0, .int .i64 0, .int .i64 0, .int .i64 0, .bool false, .bool false, .bool false, .bool false, .bool false, .bool false, .bool false, .bool false, .bool false, .bool false, .bool false, .bool false, .bool false, .bool false, .bool false, .bool false]).row (vs := Y); have hb15 : Below w1.heap.size w1 ((w1.alloc (.cells #[.int .i64 0, .int .i64 0, .int .i64 0, .int .i64 0, .int .i64 0, .int .i64 0, .int .i64 0, .int .i64 0, .int .i64 0, .int .i64 0, .int .i64 0, .int .i64 0, .int .i64 0, .int .i64 0, .int .i64 0, .int .i64 0, .bool false, .bool false, .bool false, .bool false, .bool false, .bool false, .bool false, .bool false, .bool false, .bool false, .bool false, .bool false, .bool false, .bool false, .bool false, .bool false] 53)).setRow w1.heap.size Y) := below_setRow' ((Below.refl _ _).alloc (Nat.le_refl _) _) (Nat.le_refl _) _; obtain ⟨w5, hw5⟩ : ∃ w5, w5 = (w1.alloc (.cells #[.int .i64 0, .int .i64 0, .int .i64 0, .int .i64 0, .int .i64 0, .int .i64 0, .int .i64 0, .int .i64 0, .int .i64 0, .int .i64 0, .int .i64 0, .int .i64 0, .int .i64 0, .int .i64 0, .int .i64 0, .int .i64 0, .bool false, .bool false, .bool false, .bool false, .bool false, .bool false, .bool false, .bool false, .bool false, .bool false, .bool false, .bool false, .bool false, .bool false, .bool false, .bool false] 53)).setRow w1.heap.size Y := ⟨_, rfl⟩; rw [← hw5]; replace hB5 : Blk w5 w1.heap.size 53 Y := hw5 ▸ hB5; replace hb15 : Below w1.heap.size w1 w5 := hw5 ▸ hb15; clear hw5; have hbk5 := hbk.below hb15 hbk.lt; have hrk5 := hrk.below hb15 hrk.lt; have hbe5 := hbe1.trans (hb15.mono hbe1.size))
    | (refine wpList_load_at rfl 50 (.tmp 10) rfl w1.heap.size 0 rfl 53 Y (arr (pad C)) _ hB5 hu rfl hiC hpreY ?_)
    | (go_at_call 47; refine (HDC.out _).mono ?_; rintro e w6 ⟨aF, cF, rfl, hu6, hb6⟩; have HU6 := Lib.hid hu6; clear hu6; have hbk6 := hbk5.below hb6 hbk5.lt; have hrk6 := hrk5.below hb6 hrk5.lt; have hB6 := hB5.below hb6 hB5.lt; have hbe6 := hbe5.trans (hb6.mono hbe5.size); have hz6 := hb6.size))
  have hGl := hB5.lt
  have hrl := hrk.lt
  obtain ⟨G, hG⟩ : ∃ G, G = w1.heap.size := ⟨_, rfl⟩
  rw [← hG] at hB6 hGl hrl ⊢
  rw [HY.out] at hB6
  have hGz : w.heap.size + 2 ≤ G := by omega
  have HR := Lib.hid HU6.out.rd
  have HGlo : Hid (∀ b o, aF = some ⟨b, o, none⟩ → b ≠ G ∨ F = []) := Lib.hid (by
    intro b o e
    rcases Nat.eq_zero_or_pos F.length with h0 | h0
    · exact .inr (List.eq_nil_of_length_eq_zero h0)
    · left
      obtain ⟨g, c9, e9, _⟩ := HU6.out.formN (by simpa using h0)
      injection e9 with e9
      rw [e] at e9
      injection e9 with e9; injection e9 with e9
      have h1 := HU6.out.base g (by simp [Value.ownBlock, e, e9])
      omega)
  clear hb0 hr0 hA0 hbk hrk hbe1 hb1 hb15 hB5 hbk5 hrk5 hbe5 hb6 hW hG
  go_loopw [14] (fun i wr => ∃ k : Nat, k ≤ F.length ∧ i = .int .i64 k ∧ Below w.heap.size w wr ∧ Blk wr w.heap.size 53 (mdA (pad L) (padB bs)) ∧ Blk wr (w.heap.size + 1) 53 #[.int .i64 0, .int .i64 0, .int .i64 0, .int .i64 0, .int .i64 0, .int .i64 0, .int .i64 0, .int .i64 0, .int .i64 0, .int .i64 0, .int .i64 0, .int .i64 0, .int .i64 0, .int .i64 0, .int .i64 0, .int .i64 0, .bool false, .bool false, .bool false, .bool false, .bool false, .bool false, .bool false, .bool false, .bool false, .bool false, .bool false, .bool false, .bool false, .bool false, .bool false, .bool false] ∧ Blk wr G 53 (mdA (pad C) (stM (F.take k) (fun i => bs.getD (C.getD i 0 - 1).toNat false))) ∧ (∀ j (hj : j < F.length), ∃ b o, aF = some ⟨b, o, none⟩ ∧ b ≠ G ∧ wr.cell? ⟨b, o + j, none⟩ = some (.int .i64 F[j]))) (fun i _ => 20 - (intOf i).toNat)
  case atStart =>
    refine ⟨0, Nat.zero_le _, rfl, hbe6, hbk6, hrk6, hB6, fun j hj => ?_⟩
    obtain ⟨b, o, e, _, hc⟩ := HR.out.at_ hj
    refine ⟨b, o, e, ?_, hc⟩
    rcases HGlo.out b o e with h | h
    · exact h
    · rw [h] at hj; simp at hj
  case round =>
    obtain ⟨k, hk, rfl, hbel, hbk, hrk, hBG, hcs⟩ := hrel
    clear hbe6 hbk6 hrk6 hB6
    by_cases hlt : k < F.length
    · have hlt' : (k : Int) < (F.length : Int) := by omega
      obtain ⟨b1, o1, rfl, hb1n, hc1⟩ := hcs k hlt
      obtain ⟨i, hxi, hi16', hci⟩ := HFM.out F[k] (List.getElem_mem hlt)
      have HSS := Lib.hid (stM_succ hlt (fun i => bs.getD (C.getD i 0 - 1).toNat false))
      rw [hxi] at hc1 HSS
      have hil := HLT.out i hci
      obtain ⟨hpi, hpe, hd1, hd2⟩ := HAT.out i hil
      have hci1 : wr.cell? ⟨G, i, none⟩ = some (.int .i64 (C.getD i 0)) := by rw [hBG.cell i, mdA_int _ _ i hpi, hpe]
      have hEl : (stM (F.take k) (fun i => bs.getD (C.getD i 0 - 1).toNat false)).length = 16 := stM_len _ _
      obtain ⟨d, hd⟩ : ∃ d : Nat, C.getD i 0 = (d : Int) + 1 := ⟨(C.getD i 0 - 1).toNat, by omega⟩
      have hdt : (C.getD i 0 - 1).toNat = d := by omega
      have hd16 : d < 16 := by omega
      have hPB : d < (padB bs).length := by rw [padB_len hb16]; exact hd16
      have hcm : wr.cell? ⟨w.heap.size, 16 + d, none⟩ = some (.bool (bs.getD d false)) := by
        rw [hbk.cell (16 + d), mdA_bool _ _ HPL.out d hPB]
        have e := padB_getD bs d
        rw [List.getD_eq_getElem?_getD, List.getElem?_eq_getElem hPB] at e
        rw [← e]; rfl
      have hcG : wr.cell? ⟨G, 16 + i, none⟩ = some (.bool ((stM (F.take k) (fun i => bs.getD (C.getD i 0 - 1).toNat false))[i]'(by omega))) := by rw [hBG.cell (16 + i), mdA_bool _ _ HPC.out i (by omega)]
      have hfG : wr.frozen? ⟨G, 16 + i, none⟩ = false := hBG.free _
      have HSET : Hid ((mdA (pad C) (stM (F.take k) (fun i => bs.getD (C.getD i 0 - 1).toNat false))).setIfInBounds (16 + i) (.bool (bs.getD d false)) = mdA (pad C) (stM (F.take (k + 1)) (fun i => bs.getD (C.getD i 0 - 1).toNat false))) := Lib.hid (by
        rw [mdA_set _ _ HPC.out, HSS.out]
        simp only [Int.toNat_natCast]
        rw [hdt])
      have HCS := Lib.hid hcs
      rw [hd] at hci1
      have hi16i : (i : Int) < 16 := by omega
      have hd16i : (d : Int) < 16 := by omega
      generalize (stM (F.take k) (fun i => bs.getD (C.getD i 0 - 1).toNat false))[i]'_ = y at hcG
      generalize bs.getD d false = m at hcm HSET
      clear hxi hpe hd hdt hcs hci hEl
      go_wp2_with fail
      go_roundw
      case rel =>
        refine ⟨k + 1, by omega, by go_num, hbel.setCell (by show w.heap.size ≤ G; omega) _, hbk.off (by show w.heap.size ≠ G; omega) _, hrk.off (by show w.heap.size + 1 ≠ G; omega) _, ?_, fun j hj => ?_⟩
        · have e := hBG.set (16 + i) (.bool m)
          rw [HSET.out] at e
          exact e
        · obtain ⟨b, o, e, hbn, hc⟩ := HCS.out j hj
          refine ⟨b, o, e, hbn, ?_⟩
          have hne : (⟨G, 16 + i, none⟩ : Addr) ≠ ⟨b, o + j, none⟩ := fun h => hbn (congrArg Addr.block h).symm
          exact (World.cell?_setCell_other _ _ _ _ hne).trans hc
      case measure => simp [intOf]; omega
    · obtain rfl : k = F.length := by omega
      rw [List.take_of_length_le (Nat.le_refl _), HST.out] at hBG
      have hle : (padB (tnM L bs)).length = 16 := by rw [← HST.out]; exact stM_len _ _
      have hiQ := HIM.out _ hle
      have hszQ : (mdA (pad C) (padB (tnM L bs))).size = (#[.int .i64 0, .int .i64 0, .int .i64 0, .int .i64 0, .int .i64 0, .int .i64 0, .int .i64 0, .int .i64 0, .int .i64 0, .int .i64 0, .int .i64 0, .int .i64 0, .int .i64 0, .int .i64 0, .int .i64 0, .int .i64 0, .bool false, .bool false, .bool false, .bool false, .bool false, .bool false, .bool false, .bool false, .bool false, .bool false, .bool false, .bool false, .bool false, .bool false, .bool false, .bool false] : Array Value).size := by rw [mdA_size, HPC.out, hle]; rfl
      obtain ⟨Q, hQ⟩ : ∃ Q, Q = mdA (pad C) (padB (tnM L bs)) := ⟨_, rfl⟩
      have honeQ : ∀ v ∈ Q.toList, v.oneCell' = true := by rw [hQ]; exact mdA_one _ _
      rw [← hQ] at hBG hiQ hszQ
      have HQ := Lib.hid hQ
      clear hQ hcs hle
      go_wp2_with (first
        | (refine wpList_load_row rfl 53 (.tmp 3) rfl G rfl 53 Q (0, 0) _ hBG hum rfl hiQ ?_)
        | (refine wpList_store_row rfl 53 (.tmp 2) (.tmp 30) rfl (w.heap.size + 1) rfl Q rfl 53 _ hrk hiQ hszQ honeQ ?_))
      refine bodyPost_ret (results_cell_row rfl _ _ (w.heap.size + 1) 53 Q (0, 0) _ rfl hrk.row hum rfl hiQ) rfl ?_
      rw [← HQ.out]
      exact ⟨rfl, below_setRow' hbel (by omega) _⟩
end Go.Proofs.Ytbbbfaollcklkaa
namespace Go.Proofs.Ytbbbfaollcklkaa
open Go.RowKit NP
set_option maxRecDepth 100000
set_option linter.unusedVariables false
set_option linter.unusedSimpArgs false
def tnL (L : List Int) (bs : List Bool) : List Int := if vmk L bs then conj L else []
def tnB (L : List Int) (bs : List Bool) : List Bool := if vmk L bs then tnM L bs else []
theorem tn_yes {L : List Int} {bs : List Bool} (h : vmk L bs = true) : tnL L bs = conj L ∧ tnB L bs = tnM L bs := by
  constructor
  · unfold tnL; rw [h]; rfl
  · unfold tnB; rw [h]; rfl
theorem tn_no {L : List Int} {bs : List Bool} (h : vmk L bs = false) : tnL L bs = [] ∧ tnB L bs = [] := by
  constructor
  · unfold tnL; rw [h]; rfl
  · unfold tnB; rw [h]; rfl
theorem tn_len (L : List Int) (bs : List Bool) : (tnL L bs).length ≤ 16 ∧ (tnB L bs).length = (tnL L bs).length := by
  cases h : vmk L bs with
  | false => rw [(tn_no h).1, (tn_no h).2]; exact ⟨by simp, rfl⟩
  | true =>
    rw [(tn_yes h).1, (tn_yes h).2]
    exact ⟨(valid_bd (valid_conj (vmk_iff.1 h).1)).2.2.2, mkOf_len _ _⟩
theorem own_nil3 (w : World) (lo hi : Nat) (e : TypeId) (h : hi ≤ w.heap.size) : Own w lo hi e (.slice none 0 0) [] := by
  have h0 := Own.nil w lo e
  exact ⟨h0.row, fun g hg => by simp [Value.ownBlock] at hg, h⟩
set_option maxHeartbeats 1000000 in
theorem iValidMarked_any (a1 a2 : Option Addr) (c1 c2 B1 B2 : Nat) (L : List Int) (bs : List Bool) (w : World) (h1 : Rd w B1 a1 (ints L)) (h2 : Rd w B2 a2 (bls bs)) (hB1 : B1 ≤ w.heap.size) (hB2 : B2 ≤ w.heap.size) (hl1 : L.length ≤ 4611686018427387904) (hl2 : bs.length ≤ 4611686018427387904) :
    Calls Try.prog 14 #[.agg #[.slice a1 L.length c1, .slice a2 bs.length c2]] w fun e w' => e = .returned (.bool (vmk L bs)) ∧ Below w.heap.size w w' := by
  have hum := Try.underlying53
  have hmu := Try.underlying28
  have hi2 : (Try.prog.info? 28).map (·.size) = some 2 := T_mk
  have hml := md_len L bs
  have hiM : (Try.prog.info? 53).map (·.size) = some (mdA (mdD L bs) (mdE L bs)).size := by rw [mdA_size, hml.1, hml.2]; exact T_md
  have hszM : (mdA (mdD L bs) (mdE L bs)).size = (#[.int .i64 0, .int .i64 0, .int .i64 0, .int .i64 0, .int .i64 0, .int .i64 0, .int .i64 0, .int .i64 0, .int .i64 0, .int .i64 0, .int .i64 0, .int .i64 0, .int .i64 0, .int .i64 0, .int .i64 0, .int .i64 0, .bool false, .bool false, .bool false, .bool false, .bool false, .bool false, .bool false, .bool false, .bool false, .bool false, .bool false, .bool false, .bool false, .bool false, .bool false, .bool false] : Array Value).size := by rw [mdA_size, hml.1, hml.2]; rfl
  have HMO : Hid (∀ w', Below w.heap.size w w' → Calls Try.prog 40 #[.agg #[.slice a1 L.length c1, .slice a2 bs.length c2]] w' fun e w'' => e = .returned (.tuple #[.agg (mdA (mdD L bs) (mdE L bs)), .bool (vmk L bs)]) ∧ Below w'.heap.size w' w'') := Lib.hid (fun w' hb => mdOf_any a1 a2 c1 c2 w.heap.size w.heap.size L bs w' ((h1.more hB1).below hb) ((h2.more hB2).below hb) hb.size hb.size hl1 hl2)
  obtain ⟨v, hv⟩ : ∃ v, v = vmk L bs := ⟨_, rfl⟩
  rw [← hv] at HMO
  obtain ⟨M, hM⟩ : ∃ M, M = mdA (mdD L bs) (mdE L bs) := ⟨_, rfl⟩
  have honeM : ∀ v ∈ M.toList, v.oneCell' = true := by rw [hM]; exact mdA_one _ _
  rw [← hM] at HMO hiM hszM
  have HM := Lib.hid hM
  have hb0 := Blk.new w 28 #[.slice a1 L.length c1, .slice a2 bs.length c2]
  have hbe0 : Below w.heap.size w (w.alloc (.cells #[.slice a1 L.length c1, .slice a2 bs.length c2] 28)) := (Below.refl _ _).alloc (Nat.le_refl _) _
  clear hM hml h1 h2
  rw [← hv]
  clear hv
  go_enter Try.func14, Try.ntmps14
  go_wp2_with (first
    | (refine wpList_load_row rfl 28 (.tmp 1) rfl w.heap.size rfl 28 #[.slice a1 L.length c1, .slice a2 bs.length c2] (0, 0) _ hb0 hmu rfl hi2 ?_)
    | (go_at_call 40; refine (HMO.out _ hbe0).mono ?_; rintro e w1 ⟨rfl, hb1⟩; have hbz := Blk.new w1 53 #[.int .i64 0, .int .i64 0, .int .i64 0, .int .i64 0, .int .i64 0, .int .i64 0, .int .i64 0, .int .i64 0, .int .i64 0, .int .i64 0, .int .i64 0, .int .i64 0, .int .i64 0, .int .i64 0, .int .i64 0, .int .i64 0, .bool false, .bool false, .bool false, .bool false, .bool false, .bool false, .bool false, .bool false, .bool false, .bool false, .bool false, .bool false, .bool false, .bool false, .bool false, .bool false]; have hbe1 := hbe0.trans (hb1.mono hbe0.size))
    | (refine wpList_store_row rfl 53 (.tmp 3) (.tmp 8) rfl w1.heap.size rfl M rfl 53 _ hbz hiM hszM honeM ?_))
  have hbb : Below w1.heap.size w1 ((w1.alloc (.cells #[.int .i64 0, .int .i64 0, .int .i64 0, .int .i64 0, .int .i64 0, .int .i64 0, .int .i64 0, .int .i64 0, .int .i64 0, .int .i64 0, .int .i64 0, .int .i64 0, .int .i64 0, .int .i64 0, .int .i64 0, .int .i64 0, .bool false, .bool false, .bool false, .bool false, .bool false, .bool false, .bool false, .bool false, .bool false, .bool false, .bool false, .bool false, .bool false, .bool false, .bool false, .bool false] 53)).setRow w1.heap.size M) := below_setRow' ((Below.refl _ _).alloc (Nat.le_refl _) _) (Nat.le_refl _) _
  have hbt := hbe1.trans (hbb.mono hbe1.size)
  go_ret
  exact ⟨rfl, hbt⟩
set_option maxHeartbeats 1000000 in
theorem iSplitMarked_any (a1 a2 : Option Addr) (c1 c2 B1 B2 : Nat) (L : List Int) (bs : List Bool) (w : World) (h1 : Rd w B1 a1 (ints L)) (h2 : Rd w B2 a2 (bls bs)) (hB1 : B1 ≤ w.heap.size) (hB2 : B2 ≤ w.heap.size) (hl1 : L.length ≤ 4611686018427387904) (hl2 : bs.length ≤ 4611686018427387904) :
    Calls Try.prog 17 #[.agg #[.slice a1 L.length c1, .slice a2 bs.length c2]] w fun e w' => ∃ aT cT aF cF, e = .returned (.tuple #[.slice aT (selF true L bs).length cT, .slice aF (selF false L bs).length cF]) ∧ Own w' w.heap.size w'.heap.size 3 (.slice aT (selF true L bs).length cT) (ints (selF true L bs)) ∧ Own w' w.heap.size w'.heap.size 3 (.slice aF (selF false L bs).length cF) (ints (selF false L bs)) ∧ (∀ g, Value.ownBlock (.slice aT (selF true L bs).length cT) = some g → Value.ownBlock (.slice aF (selF false L bs).length cF) = some g → False) ∧ Below w.heap.size w w' := by
  have hum := Try.underlying53
  have hmu := Try.underlying28
  have hi2 : (Try.prog.info? 28).map (·.size) = some 2 := T_mk
  have hml := md_len L bs
  have hiM : (Try.prog.info? 53).map (·.size) = some (mdA (mdD L bs) (mdE L bs)).size := by rw [mdA_size, hml.1, hml.2]; exact T_md
  have hszM : (mdA (mdD L bs) (mdE L bs)).size = (#[.int .i64 0, .int .i64 0, .int .i64 0, .int .i64 0, .int .i64 0, .int .i64 0, .int .i64 0, .int .i64 0, .int .i64 0, .int .i64 0, .int .i64 0, .int .i64 0, .int .i64 0, .int .i64 0, .int .i64 0, .int .i64 0, .bool false, .bool false, .bool false, .bool false, .bool false, .bool false, .bool false, .bool false, .bool false, .bool false, .bool false, .bool false, .bool false, .bool false, .bool false, .bool false] : Array Value).size := by rw [mdA_size, hml.1, hml.2]; rfl
  have HMO : Hid (∀ w', Below w.heap.size w w' → Calls Try.prog 40 #[.agg #[.slice a1 L.length c1, .slice a2 bs.length c2]] w' fun e w'' => e = .returned (.tuple #[.agg (mdA (mdD L bs) (mdE L bs)), .bool (vmk L bs)]) ∧ Below w'.heap.size w' w'') := Lib.hid (fun w' hb => mdOf_any a1 a2 c1 c2 w.heap.size w.heap.size L bs w' ((h1.more hB1).below hb) ((h2.more hB2).below hb) hb.size hb.size hl1 hl2)
  obtain ⟨v, hv⟩ : ∃ v, v = vmk L bs := ⟨_, rfl⟩
  rw [← hv] at HMO
  obtain ⟨M, hM⟩ : ∃ M, M = mdA (mdD L bs) (mdE L bs) := ⟨_, rfl⟩
  have honeM : ∀ v ∈ M.toList, v.oneCell' = true := by rw [hM]; exact mdA_one _ _
  rw [← hM] at HMO hiM hszM
  have HM := Lib.hid hM
  have hb0 := Blk.new w 28 #[.slice a1 L.length c1, .slice a2 bs.length c2]
  have hbe0 : Below w.heap.size w (w.alloc (.cells #[.slice a1 L.length c1, .slice a2 bs.length c2] 28)) := (Below.refl _ _).alloc (Nat.le_refl _) _
  clear hM hml h1 h2
  cases v with
  | false =>
    have HN1 := Lib.hid (selF_no (b := true) hv.symm)
    have HN2 := Lib.hid (selF_no (b := false) hv.symm)
    clear hv
    go_enter Try.func17, Try.ntmps17
    go_wp2_with (first
      | (refine wpList_load_row rfl 28 (.tmp 1) rfl w.heap.size rfl 28 #[.slice a1 L.length c1, .slice a2 bs.length c2] (0, 0) _ hb0 hmu rfl hi2 ?_)
      | (go_at_call 40; refine (HMO.out _ hbe0).mono ?_; rintro e w1 ⟨rfl, hb1⟩; have hbz := Blk.new w1 53 #[.int .i64 0, .int .i64 0, .int .i64 0, .int .i64 0, .int .i64 0, .int .i64 0, .int .i64 0, .int .i64 0, .int .i64 0, .int .i64 0, .int .i64 0, .int .i64 0, .int .i64 0, .int .i64 0, .int .i64 0, .int .i64 0, .bool false, .bool false, .bool false, .bool false, .bool false, .bool false, .bool false, .bool false, .bool false, .bool false, .bool false, .bool false, .bool false, .bool false, .bool false, .bool false]; have hbe1 := hbe0.trans (hb1.mono hbe0.size))
      | (refine wpList_store_row rfl 53 (.tmp 4) (.tmp 9) rfl w1.heap.size rfl M rfl 53 _ hbz hiM hszM honeM ?_))
    have hbb : Below w1.heap.size w1 ((w1.alloc (.cells #[.int .i64 0, .int .i64 0, .int .i64 0, .int .i64 0, .int .i64 0, .int .i64 0, .int .i64 0, .int .i64 0, .int .i64 0, .int .i64 0, .int .i64 0, .int .i64 0, .int .i64 0, .int .i64 0, .int .i64 0, .int .i64 0, .bool false, .bool false, .bool false, .bool false, .bool false, .bool false, .bool false, .bool false, .bool false, .bool false, .bool false, .bool false, .bool false, .bool false, .bool false, .bool false] 53)).setRow w1.heap.size M) := below_setRow' ((Below.refl _ _).alloc (Nat.le_refl _) _) (Nat.le_refl _) _
    have hbt := hbe1.trans (hbb.mono hbe1.size)
    go_ret2
    rw [HN1.out, HN2.out]
    exact ⟨none, 0, none, 0, rfl, Own.nil _ _ _, Own.nil _ _ _, fun g hg => by simp [Value.ownBlock] at hg, hbt⟩
  | true =>
    have hvm := vmk_iff.1 hv.symm
    have HY1 := Lib.hid (selF_yes (b := true) hv.symm)
    have HY2 := Lib.hid (selF_yes (b := false) hv.symm)
    have HMY : Hid (M = mdA (pad L) (padB bs)) := Lib.hid (by rw [HM.out, (md_yes hv.symm).1, (md_yes hv.symm).2])
    have HSP := Lib.hid (fun w => msplit_any L bs hvm.1 hvm.2.1 w)
    rw [← HMY.out] at HSP
    clear hv hvm
    go_enter Try.func17, Try.ntmps17
    go_wp2_with (first
      | (refine wpList_load_row rfl 28 (.tmp 1) rfl w.heap.size rfl 28 #[.slice a1 L.length c1, .slice a2 bs.length c2] (0, 0) _ hb0 hmu rfl hi2 ?_)
      | (go_at_call 40; refine (HMO.out _ hbe0).mono ?_; rintro e w1 ⟨rfl, hb1⟩; have hbz := Blk.new w1 53 #[.int .i64 0, .int .i64 0, .int .i64 0, .int .i64 0, .int .i64 0, .int .i64 0, .int .i64 0, .int .i64 0, .int .i64 0, .int .i64 0, .int .i64 0, .int .i64 0, .int .i64 0, .int .i64 0, .int .i64 0, .int .i64 0, .bool false, .bool false, .bool false, .bool false, .bool false, .bool false, .bool false, .bool false, .bool false, .bool false, .bool false, .bool false, .bool false, .bool false, .bool false, .bool false]; have hbe1 := hbe0.trans (hb1.mono hbe0.size); have hbz2 := hbz.row (vs := M))
      | (refine wpList_store_row rfl 53 (.tmp 4) (.tmp 9) rfl w1.heap.size rfl M rfl 53 _ hbz hiM hszM honeM ?_)
      | (refine wpList_load_row rfl 53 (.tmp 4) rfl w1.heap.size rfl 53 M (0, 0) _ hbz2 hum rfl hiM ?_)
      | (go_at_call 44; refine (HSP.out _).mono ?_; rintro e w2 ⟨aT, cT, aF, cF, rfl, oT, oF, ap, hb2⟩; have HT := Lib.hid oT; have HF := Lib.hid oF; have HAP := Lib.hid ap; clear oT oF ap))
    have hbb : Below w1.heap.size w1 ((w1.alloc (.cells #[.int .i64 0, .int .i64 0, .int .i64 0, .int .i64 0, .int .i64 0, .int .i64 0, .int .i64 0, .int .i64 0, .int .i64 0, .int .i64 0, .int .i64 0, .int .i64 0, .int .i64 0, .int .i64 0, .int .i64 0, .int .i64 0, .bool false, .bool false, .bool false, .bool false, .bool false, .bool false, .bool false, .bool false, .bool false, .bool false, .bool false, .bool false, .bool false, .bool false, .bool false, .bool false] 53)).setRow w1.heap.size M) := below_setRow' ((Below.refl _ _).alloc (Nat.le_refl _) _) (Nat.le_refl _) _
    have hbt := hbe1.trans (hbb.mono hbe1.size)
    go_ret2
    have hz := hbt.size
    rw [HY1.out, HY2.out]
    exact ⟨aT, cT, aF, cF, rfl, HT.out.lower (by simpa using hz), HF.out.lower (by simpa using hz), HAP.out, hbt.trans (hb2.mono hz)⟩
set_option maxHeartbeats 1000000 in
theorem iTurnMarked_any (a1 a2 : Option Addr) (c1 c2 B1 B2 : Nat) (L : List Int) (bs : List Bool) (w : World) (h1 : Rd w B1 a1 (ints L)) (h2 : Rd w B2 a2 (bls bs)) (hB1 : B1 ≤ w.heap.size) (hB2 : B2 ≤ w.heap.size) (hl1 : L.length ≤ 4611686018427387904) (hl2 : bs.length ≤ 4611686018427387904) :
    Calls Try.prog 34 #[.agg #[.slice a1 L.length c1, .slice a2 bs.length c2]] w fun e w' => ∃ b1 b2 d1 d2, e = .returned (.agg #[.slice b1 (tnL L bs).length d1, .slice b2 (tnB L bs).length d2]) ∧ (∃ m, w.heap.size ≤ m ∧ m ≤ w'.heap.size ∧ Own w' w.heap.size m 4 (.slice b2 (tnB L bs).length d2) (bls (tnB L bs)) ∧ Own w' m w'.heap.size 3 (.slice b1 (tnL L bs).length d1) (ints (tnL L bs))) ∧ Below w.heap.size w w' := by
  have hum := Try.underlying53
  have hmu := Try.underlying28
  have hi2 : (Try.prog.info? 28).map (·.size) = some 2 := T_mk
  have hml := md_len L bs
  have hiM : (Try.prog.info? 53).map (·.size) = some (mdA (mdD L bs) (mdE L bs)).size := by rw [mdA_size, hml.1, hml.2]; exact T_md
  have hszM : (mdA (mdD L bs) (mdE L bs)).size = (#[.int .i64 0, .int .i64 0, .int .i64 0, .int .i64 0, .int .i64 0, .int .i64 0, .int .i64 0, .int .i64 0, .int .i64 0, .int .i64 0, .int .i64 0, .int .i64 0, .int .i64 0, .int .i64 0, .int .i64 0, .int .i64 0, .bool false, .bool false, .bool false, .bool false, .bool false, .bool false, .bool false, .bool false, .bool false, .bool false, .bool false, .bool false, .bool false, .bool false, .bool false, .bool false] : Array Value).size := by rw [mdA_size, hml.1, hml.2]; rfl
  have HMO : Hid (∀ w', Below w.heap.size w w' → Calls Try.prog 40 #[.agg #[.slice a1 L.length c1, .slice a2 bs.length c2]] w' fun e w'' => e = .returned (.tuple #[.agg (mdA (mdD L bs) (mdE L bs)), .bool (vmk L bs)]) ∧ Below w'.heap.size w' w'') := Lib.hid (fun w' hb => mdOf_any a1 a2 c1 c2 w.heap.size w.heap.size L bs w' ((h1.more hB1).below hb) ((h2.more hB2).below hb) hb.size hb.size hl1 hl2)
  obtain ⟨v, hv⟩ : ∃ v, v = vmk L bs := ⟨_, rfl⟩
  rw [← hv] at HMO
  obtain ⟨M, hM⟩ : ∃ M, M = mdA (mdD L bs) (mdE L bs) := ⟨_, rfl⟩
  have honeM : ∀ v ∈ M.toList, v.oneCell' = true := by rw [hM]; exact mdA_one _ _
  rw [← hM] at HMO hiM hszM
  have HM := Lib.hid hM
  have hb0 := Blk.new w 28 #[.slice a1 L.length c1, .slice a2 bs.length c2]
  have hbe0 : Below w.heap.size w (w.alloc (.cells #[.slice a1 L.length c1, .slice a2 bs.length c2] 28)) := (Below.refl _ _).alloc (Nat.le_refl _) _
  have hb0' := hb0.alloc (.cells #[.slice none 0 0, .slice none 0 0] 28)
  have hr0 : Blk ((w.alloc (.cells #[.slice a1 L.length c1, .slice a2 bs.length c2] 28)).alloc (.cells #[.slice none 0 0, .slice none 0 0] 28)) (w.heap.size + 1) 28 #[.slice none 0 0, .slice none 0 0] := by
    have e := Blk.new (w.alloc (.cells #[.slice a1 L.length c1, .slice a2 bs.length c2] 28)) 28 #[.slice none 0 0, .slice none 0 0]
    rw [World.size_alloc] at e
    exact e
  have hbe0' := hbe0.alloc (by simp) (.cells #[.slice none 0 0, .slice none 0 0] 28)
  clear hb0 hbe0
  obtain ⟨W, hW⟩ : ∃ W, (w.alloc (.cells #[.slice a1 L.length c1, .slice a2 bs.length c2] 28)).alloc (.cells #[.slice none 0 0, .slice none 0 0] 28) = W := ⟨_, rfl⟩
  have hWs : w.heap.size + 2 ≤ W.heap.size := by rw [← hW]; simp
  rw [hW] at hb0' hr0 hbe0'
  have hb0 := hb0'
  have hbe0 := hbe0'
  clear hb0' hbe0'
  clear hM hml h1 h2
  cases v with
  | false =>
    have HN := Lib.hid (tn_no hv.symm)
    clear hv
    go_enter Try.func34, Try.ntmps34
    go_wp2_with (first
      | (refine wpList_load_row rfl 28 (.tmp 1) rfl w.heap.size rfl 28 #[.slice a1 L.length c1, .slice a2 bs.length c2] (0, 0) _ hb0 hmu rfl hi2 ?_)
      | (go_at_call 40; refine (HMO.out _ hbe0).mono ?_; rintro e w1 ⟨rfl, hb1⟩; have hbz := Blk.new w1 53 #[.int .i64 0, .int .i64 0, .int .i64 0, .int .i64 0, .int .i64 0, .int .i64 0, .int .i64 0, .int .i64 0, .int .i64 0, .int .i64 0, .int .i64 0, .int .i64 0, .int .i64 0, .int .i64 0, .int .i64 0, .int .i64 0, .bool false, .bool false, .bool false, .bool false, .bool false, .bool false, .bool false, .bool false, .bool false, .bool false, .bool false, .bool false, .bool false, .bool false, .bool false, .bool false]; have hbe1 := hbe0.trans (hb1.mono hbe0.size); have hr1 := hr0.below hb1 hr0.lt; have hr1' := (hr1.alloc (.cells #[.int .i64 0, .int .i64 0, .int .i64 0, .int .i64 0, .int .i64 0, .int .i64 0, .int .i64 0, .int .i64 0, .int .i64 0, .int .i64 0, .int .i64 0, .int .i64 0, .int .i64 0, .int .i64 0, .int .i64 0, .int .i64 0, .bool false, .bool false, .bool false, .bool false, .bool false, .bool false, .bool false, .bool false, .bool false, .bool false, .bool false, .bool false, .bool false, .bool false, .bool false, .bool false] 53)).rowOff (vs := M) (show w.heap.size + 1 ≠ w1.heap.size by have := hr1.lt; omega))
      | (refine wpList_store_row rfl 53 (.tmp 3) (.tmp 8) rfl w1.heap.size rfl M rfl 53 _ hbz hiM hszM honeM ?_)
      | (refine wpList_store_row rfl 28 (.tmp 2) (.tmp 12) rfl (w.heap.size + 1) rfl #[.slice none 0 0, .slice none 0 0] rfl 28 _ hr1' hi2 rfl (by simp [Value.oneCell']) ?_))
    have hbb : Below w1.heap.size w1 ((w1.alloc (.cells #[.int .i64 0, .int .i64 0, .int .i64 0, .int .i64 0, .int .i64 0, .int .i64 0, .int .i64 0, .int .i64 0, .int .i64 0, .int .i64 0, .int .i64 0, .int .i64 0, .int .i64 0, .int .i64 0, .int .i64 0, .int .i64 0, .bool false, .bool false, .bool false, .bool false, .bool false, .bool false, .bool false, .bool false, .bool false, .bool false, .bool false, .bool false, .bool false, .bool false, .bool false, .bool false] 53)).setRow w1.heap.size M) := below_setRow' ((Below.refl _ _).alloc (Nat.le_refl _) _) (Nat.le_refl _) _
    have hbt := hbe1.trans (hbb.mono hbe1.size)
    refine bodyPost_ret (results_cell_row rfl _ _ (w.heap.size + 1) 28 #[.slice none 0 0, .slice none 0 0] (0, 0) _ rfl hr1'.row hmu rfl hi2) rfl ?_
    rw [HN.out.1, HN.out.2]
    exact ⟨none, none, 0, 0, rfl, ⟨w.heap.size, Nat.le_refl _, by simpa using hbt.size, own_nil3 _ _ _ _ (by simpa using hbt.size), Own.nil _ _ _⟩, below_setRow' hbt (by omega) _⟩
  | true =>
    have hvm := vmk_iff.1 hv.symm
    have HY := Lib.hid (tn_yes hv.symm)
    have HMY : Hid (M = mdA (pad L) (padB bs)) := Lib.hid (by rw [HM.out, (md_yes hv.symm).1, (md_yes hv.symm).2])
    have HTN := Lib.hid (fun w => mturned_any L bs hvm.1 hvm.2.1 w)
    have HPP := Lib.hid (fun w => mparts_any (conj L) (tnM L bs) (valid_conj hvm.1) (mkOf_len _ _) w)
    rw [← HMY.out] at HTN
    clear hv hvm
    go_enter Try.func34, Try.ntmps34
    go_wp2_with (first
      | (refine wpList_load_row rfl 28 (.tmp 1) rfl w.heap.size rfl 28 #[.slice a1 L.length c1, .slice a2 bs.length c2] (0, 0) _ hb0 hmu rfl hi2 ?_)
      | (go_at_call 40; refine (HMO.out _ hbe0).mono ?_; rintro e w1 ⟨rfl, hb1⟩; have hbz := Blk.new w1 53 #[.int .i64 0, .int .i64 0, .int .i64 0, .int .i64 0, .int .i64 0, .int .i64 0, .int .i64 0, .int .i64 0, .int .i64 0, .int .i64 0, .int .i64 0, .int .i64 0, .int .i64 0, .int .i64 0, .int .i64 0, .int .i64 0, .bool false, .bool false, .bool false, .bool false, .bool false, .bool false, .bool false, .bool false, .bool false, .bool false, .bool false, .bool false, .bool false, .bool false, .bool false, .bool false]; have hbe1 := hbe0.trans (hb1.mono hbe0.size); have hr1 := hr0.below hb1 hr0.lt; have hr1' := (hr1.alloc (.cells #[.int .i64 0, .int .i64 0, .int .i64 0, .int .i64 0, .int .i64 0, .int .i64 0, .int .i64 0, .int .i64 0, .int .i64 0, .int .i64 0, .int .i64 0, .int .i64 0, .int .i64 0, .int .i64 0, .int .i64 0, .int .i64 0, .bool false, .bool false, .bool false, .bool false, .bool false, .bool false, .bool false, .bool false, .bool false, .bool false, .bool false, .bool false, .bool false, .bool false, .bool false, .bool false] 53)).rowOff (vs := M) (show w.heap.size + 1 ≠ w1.heap.size by have := hr1.lt; omega); have hbz2 := hbz.row (vs := M))
      | (refine wpList_store_row rfl 53 (.tmp 3) (.tmp 8) rfl w1.heap.size rfl M rfl 53 _ hbz hiM hszM honeM ?_)
      | (refine wpList_load_row rfl 53 (.tmp 3) rfl w1.heap.size rfl 53 M (0, 0) _ hbz2 hum rfl hiM ?_)
      | (go_at_call 65; refine (HTN.out _).mono ?_; rintro e w2 ⟨rfl, hb2⟩; have hr2 := hr1'.below hb2 hr1'.lt; have hz2 := hb2.size)
      | (go_at_call 49; refine (HPP.out _).mono ?_; rintro e w3 ⟨u1, u2, rfl, om, hb3⟩; have HOM := Lib.hid om; have hr3 := hr2.below hb3 hr2.lt; have hz3 := hb3.size; clear om)
      | (refine wpList_store_row rfl 28 (.tmp 2) (.tmp 15) rfl (w.heap.size + 1) rfl #[.slice u1 (conj L).length (conj L).length, .slice u2 (tnM L bs).length (tnM L bs).length] rfl 28 _ hr3 hi2 rfl (by simp [Value.oneCell']) ?_))
    have hbb : Below w1.heap.size w1 ((w1.alloc (.cells #[.int .i64 0, .int .i64 0, .int .i64 0, .int .i64 0, .int .i64 0, .int .i64 0, .int .i64 0, .int .i64 0, .int .i64 0, .int .i64 0, .int .i64 0, .int .i64 0, .int .i64 0, .int .i64 0, .int .i64 0, .int .i64 0, .bool false, .bool false, .bool false, .bool false, .bool false, .bool false, .bool false, .bool false, .bool false, .bool false, .bool false, .bool false, .bool false, .bool false, .bool false, .bool false] 53)).setRow w1.heap.size M) := below_setRow' ((Below.refl _ _).alloc (Nat.le_refl _) _) (Nat.le_refl _) _
    have hbt := hbe1.trans (hbb.mono hbe1.size)
    refine bodyPost_ret (results_cell_row rfl _ _ (w.heap.size + 1) 28 #[.slice u1 (conj L).length (conj L).length, .slice u2 (tnM L bs).length (tnM L bs).length] (0, 0) _ rfl hr3.row hmu rfl hi2) rfl ?_
    have hbu := hbt.trans (hb2.mono hbt.size)
    have hbx := hbu.trans (hb3.mono hbu.size)
    obtain ⟨m, hm1, hm2, om1, om2⟩ := HOM.out
    have hws := hbu.size
    rw [HY.out.1, HY.out.2]
    refine ⟨u1, u2, _, _, rfl, ⟨m, by omega, by simpa using hm2, ?_, ?_⟩, below_setRow' hbx (by omega) _⟩
    · refine (om1.keep (w' := w3.setRow (w.heap.size + 1) #[.slice u1 (conj L).length (conj L).length, .slice u2 (tnM L bs).length (tnM L bs).length]) (by simp) (fun g hg => ?_)).lower hws
      have := om1.base g hg
      have h9 := hr2.lt
      exact setRow_other _ _ _ _ (by omega)
    · have e := om2.keep (w' := w3.setRow (w.heap.size + 1) #[.slice u1 (conj L).length (conj L).length, .slice u2 (tnM L bs).length (tnM L bs).length]) (by simp) (fun g hg => by
        have := om2.base g hg
        have h9 := hr2.lt
        exact setRow_other _ _ _ _ (by omega))
      simpa using e
end Go.Proofs.Ytbbbfaollcklkaa
