/-
  Walks: cells taken away and put, of the model and of the program. Walks of the program: a marked diagram's parts, split, turned. Walks of the program: marks set at corners by the bits of a mask. A range over a function whose iterator keeps a state of its own in cells of one type. Plain mathematics of added parts. Plain mathematics of the promises of times and corners.
-/
import Derived.Test.YtgkghebjaedjmaaZA1
import Derived.Test.YtgkghebjaedjmaaZA2
import Derived.Deep.RegionLaw
import Derived.RangeFuncFrom
import Derived.RangeFuncBound
import Derived.RangeFuncCalls
import Derived.RangeFuncLeaves
import Derived.Shelf.Abstract
import Derived.Shelf.RegionOpen
import Derived.WalkKit
import Derived.OwnWalkIn
import Derived.TacticsInMore
import Derived.LoopNIn
import Derived.LoopIn
import Derived.Laws.Rows
namespace Go.Proofs.Ytgkghebjaedjmaa
open Go.RowKit NP
set_option maxRecDepth 8000
set_option linter.unusedVariables false

theorem Own.take {w : World} {lo hi : Nat} {e : TypeId} {a : Option Addr} {n c : Nat} {vs : List Value} (h : Own w lo hi e (.slice a n c) vs) (k : Nat) (hk : k ≤ vs.length) : Own w lo hi e (.slice a k c) (vs.take k) := by
  refine ⟨?_, fun g hg => h.lt g (by cases a with | none => cases hg | some b => exact hg), h.le⟩
  have hlen : (vs.take k).length = k := by simp; omega
  rw [hlen]
  refine ⟨by rw [hlen]; omega, ?_⟩
  rcases h.row.2 with ⟨e1, e2⟩ | ⟨g, cap, cur, e1, hb, hg, hc, hm, hs, ht⟩
  · injection e1 with e3 e4 e5
    subst e3; subst e5
    have : k = 0 := by omega
    subst this
    exact .inl ⟨rfl, rfl⟩
  · injection e1 with e3 e4 e5
    subst e3; subst e5
    refine .inr ⟨g, c, cur, rfl, hb, hg, by omega, hm, hs, ?_⟩
    rw [← ht, List.take_take]
    congr 1
    omega



theorem rmvOk_no {L : List Int} (h : valid L = false) (i : Int) : rmvOk L i = false := by simp [rmvOk, h]
theorem rmvOk_yes {L : List Int} (h : valid L = true) (i : Int) : rmvOk L i = hasI (crn L) i := by
  unfold rmvOk crn
  rw [h, Bool.true_and, crnTo_fl, hasI_fl]
theorem rmv_no {L : List Int} {i : Int} (h : rmvOk L i = false) : rmv L i = [] := by simp [rmv, h]
theorem rmv_yes {L : List Int} {i : Int} (h : rmvOk L i = true) : ∃ k : Nat, i = k ∧ k < L.length ∧ isC L k = true ∧ valid L = true ∧ rmv L i = lessL L k := by
  have h2 := h
  unfold rmvOk at h
  simp only [Bool.and_eq_true, decide_eq_true_eq] at h
  obtain ⟨hv, ⟨h0, hlt⟩, hc⟩ := h
  obtain ⟨k, rfl⟩ := Int.eq_ofNat_of_zero_le h0
  refine ⟨k, rfl, by omega, hc, hv, ?_⟩
  unfold rmv
  rw [if_pos h2]
  rfl
theorem own_nil0 (w : World) (lo : Nat) (e : TypeId) : Own w lo w.heap.size e (.slice none ([] : List Int).length 0) (ints []) := Own.nil w lo e

theorem addOk_no {L : List Int} (h : valid L = false) (i : Int) : addOk L i = false := by simp [addOk, h]
theorem addC_no {L : List Int} {i : Int} (h : addOk L i = false) : addC L i = [] := by simp [addC, h]
theorem addC_yes {L : List Int} {i : Int} (h : addOk L i = true) : addC L i = addL L i.toNat := by simp [addC, h]
theorem addOk_at {L : List Int} (hv : valid L = true) {k : Nat} (hk : k ≤ L.length) : addOk L k = valid (addL L k) := by
  unfold addOk
  rw [hv, decide_eq_true (by omega : (0 : Int) ≤ (k : Int)), decide_eq_true (by omega : (k : Int) ≤ (L.length : Int))]
  rfl
theorem addOk_out {L : List Int} {i : Int} (h : ¬ (0 ≤ i ∧ i ≤ L.length)) : addOk L i = false := by
  unfold addOk
  rcases Int.lt_or_le i 0 with h0 | h0
  · rw [decide_eq_false (by omega : ¬ 0 ≤ i)]; simp
  · rw [decide_eq_false (by omega : ¬ i ≤ (L.length : Int))]; simp
theorem Blk.drs {w : World} {g : Nat} {t : TypeId} {cs : Array Value} (h : Blk w g t cs) (n : Nat) : Blk (w.drewN n) g t cs := h

end Go.Proofs.Ytgkghebjaedjmaa
namespace Go.Proofs.Ytgkghebjaedjmaa
open Go.RowKit NP
set_option maxRecDepth 100000
set_option linter.unusedVariables false
set_option linter.unusedSimpArgs false
theorem mdA_pre (D : List Int) (E : List Bool) : ∀ j (v : Value), (arr D)[j]? = some v → (mdA D E)[0 + j]? = some v := fun j v hv => by
  have hj : j < D.length := by have h1 := (Array.getElem?_eq_some_iff.1 hv).1; rwa [arr_size] at h1
  rw [arr_get D j hj] at hv
  rw [Nat.zero_add, mdA_int D E j hj]
  exact hv
theorem bls_one (E : List Bool) : ∀ v ∈ bls E, v.oneCell' = true := fun v hv => by
  obtain ⟨x, -, rfl⟩ := List.mem_map.1 hv; rfl
theorem cntD_padM {M : List Int} (hM : valid M = true) : cntD (pad M) = M.length := by
  have hlen : M.length ≤ 16 := (valid_bd hM).2.2.2
  unfold cntD
  refine ff_eq (fun j hj => ?_) hlen ?_
  · have h1 := preS_of_valid hM j hj hj
    rw [List.getD_eq_getElem?_getD, List.getElem?_eq_getElem (by rw [pad_len hlen]; omega), Option.getD_some, pad_get hlen hj]
    simp; omega
  · rcases Nat.lt_or_ge M.length 16 with h | h
    · right
      rw [List.getD_eq_getElem?_getD, List.getElem?_eq_getElem (by rw [pad_len hlen]; omega), Option.getD_some, pad_get0 hlen (Nat.le_refl _) h]
      simp
    · left; omega
theorem mk_cells {w : World} {g : Nat} {t : TypeId} {D : List Int} {bs : List Bool} (hD : D.length = 16) (hb : Blk w g t (mdA D (padB bs))) (hl : bs.length ≤ 16) : ∀ j v, (bls bs)[j]? = some v → w.cell? ((⟨g, 16, none⟩ : Addr).add j) = some v := fun j v hv => by
  have hj : j < bs.length := by have := (List.getElem?_eq_some_iff.1 hv).1; simpa using this
  rw [Addr.add_lit, hb.cell (16 + j), mdA_bool D _ hD j (by rw [padB_len hl]; omega), ← hv]
  have e := padB_getD bs j
  rw [List.getD_eq_getElem?_getD, List.getElem?_eq_getElem (by rw [padB_len hl]; omega), Option.getD_some, List.getD_eq_getElem?_getD, List.getElem?_eq_getElem hj, Option.getD_some] at e
  rw [e]
  simp [hj]
theorem run_make_bools {P : Program} (t e : TypeId) (i : TypeInfo) (h1 : P.underlying t = some (.slice e)) (h2 : P.info? e = some i) (h3 : i.zero = some (.bool false)) (h4 : i.size = 1) (h5 : i.bytes = 1)
    (n : Nat) (hn : n ≤ 4194304) (w : World) :
    (Instr.makeSlice t (.int .i64 n) (.int .i64 n)).run P w = .ok (.slice (some ⟨w.heap.size, 0, none⟩) n n) (w.alloc (.cells (arrB (List.replicate n false)) e)) := by
  have hrun := run_make (P := P) w t e i (.bool false) h1 h2 h3 .i64 .i64 n n (by omega) (by omega) (by rw [h5]; omega) (by omega)
  rw [h4] at hrun
  simp only [Int.toNat_natCast, Nat.mul_one] at hrun
  rw [hrun]
  congr 3
  apply Array.toList_inj.1
  simp [Value.cells, toList_madeCells_one, bls, arrB]
theorem T_bool : (Try.prog.info? 4).map (fun i => (i.zero, i.size, i.bytes)) = some (some (.bool false), 1, 1) := by kernel_rfl
/-- marked parts in memory of the call's own: the marks first, then the parts -/
def OwnM (w : World) (lo hi : Nat) (a1 a2 : Option Addr) (L : List Int) (bs : List Bool) : Prop :=
  ∃ m, lo ≤ m ∧ m ≤ hi ∧ Own w lo m 4 (.slice a2 bs.length bs.length) (bls bs) ∧ Own w m hi 3 (.slice a1 L.length L.length) (ints L)
set_option maxHeartbeats 4000000 in
theorem mparts_any (L : List Int) (bs : List Bool) (hv : valid L = true) (hlen : bs.length = L.length) (w : World) :
    Calls Try.prog 44 #[.agg (mdA (pad L) (padB bs))] w fun e w' => ∃ a1 a2, e = .returned (.agg #[.slice a1 L.length L.length, .slice a2 bs.length bs.length]) ∧ OwnM w' w.heap.size w'.heap.size a1 a2 L bs ∧ Below w.heap.size w w' := by
  have hu := Try.underlying60
  have hbd := valid_bd hv
  have hl16 := hbd.2.2.2
  have hb16 : bs.length ≤ 16 := by omega
  have hpl := pad_len hl16
  have hff : cntD (pad L) = L.length := by
    have := cntD_padM hv
    exact this
  have HF := Lib.hid hff
  have HV := Lib.hid hv
  have HPL := Lib.hid hpl
  have hi16 : (Try.prog.info? 60).map (·.size) = some (arr (pad L)).size := by rw [arr_size, hpl]; exact T_info35
  obtain ⟨ib, hib, hx0, hx1, hx2⟩ := info_parts T_bool
  have hmk := run_make_bools 31 4 ib Try.underlying31 hib hx0 hx1 hx2 L.length (by omega)
  have hpre := mdA_pre (pad L) (padB bs)
  have HLEN := Lib.hid hlen
  have hb0 := (Blk.new w 64 (mdA (pad L) (padB bs))).alloc (.cells #[.slice none 0 0, .slice none 0 0] 33)
  have hr0 : Blk ((w.alloc (.cells (mdA (pad L) (padB bs)) 64)).alloc (.cells #[.slice none 0 0, .slice none 0 0] 33)) (w.heap.size + 1) 33 #[.slice none 0 0, .slice none 0 0] := by
    have e := Blk.new (w.alloc (.cells (mdA (pad L) (padB bs)) 64)) 33 #[.slice none 0 0, .slice none 0 0]
    rw [World.size_alloc] at e
    exact e
  have hA0 : Below w.heap.size w ((w.alloc (.cells (mdA (pad L) (padB bs)) 64)).alloc (.cells #[.slice none 0 0, .slice none 0 0] 33)) := ((Below.refl _ _).alloc (Nat.le_refl _) _).alloc (by simp) _
  obtain ⟨W, hW⟩ : ∃ W, (w.alloc (.cells (mdA (pad L) (padB bs)) 64)).alloc (.cells #[.slice none 0 0, .slice none 0 0] 33) = W := ⟨_, rfl⟩
  have hWs : w.heap.size + 2 = W.heap.size := by rw [← hW]; simp
  rw [hW] at hb0 hr0 hA0
  have HWs := Lib.hid hWs
  clear hv hff hlen hWs
  have hOB := bls_one bs
  have hi2 : (Try.prog.info? 33).map (·.size) = some 2 := T_mk
  have hWs : w.heap.size + 2 = W.heap.size := HWs.out
  have hzz : w.heap.size ≤ W.heap.size := by omega
  clear hWs
  go_enter Try.func44, Try.ntmps44
  go_wp2_with (first
    | (refine wpList_load_at rfl 60 (.tmp 4) rfl w.heap.size 0 rfl 64 (mdA (pad L) (padB bs)) (arr (pad L)) _ hb0 hu rfl hi16 hpre ?_)
    | (go_at_call 75; refine (count_any (pad L) HPL.out _).mono ?_; rintro e w1 ⟨rfl, hb1⟩; rw [HF.out]; have hbk := hb0.below hb1 hb0.lt; have hrk := hr0.below hb1 hr0.lt; have hz1 := hb1.size; have hbe1 := hA0.trans (hb1.mono hzz))
    | ((with_reducible show wpList _ _ _ (Oper.mk _ (Op.call (Call.mk (Callee.builtin Builtin.copy) _ _)) _ _ _ _ :: _) _ _); go_loud (refine wpList_copy_splice rfl (.tmp 8) (.tmp 10) 31 31 rfl 4 Try.underlying31 (by rw [hib]; simp [hx1]) (some ⟨w1.heap.size, 0, none⟩) (some ⟨w.heap.size, 16, none⟩) L.length L.length 16 16 rfl rfl w1.heap.size 0 (bls (List.replicate L.length false)) 4 (heap_alloc_new w1 _) (bls bs) (by rw [show Nat.min 16 L.length = L.length from Nat.min_eq_right hl16]; simp [HLEN.out]) (fun _ => ⟨rfl, _, rfl, mk_cells hpl (hbk.alloc _) hb16⟩) (by simp [HLEN.out]) hOB w1.heap.size w1 ((Below.refl _ _).alloc (Nat.le_refl _) _) (Nat.le_refl _) ?_); intro w2 hg2 hb2; have hbk2 := hbk.below hb2 hbk.lt; have hrk2 := hrk.below hb2 hrk.lt; have hz2 := hb2.size; have hbe2 := hbe1.trans (hb2.mono (by omega)))
    | (refine wpList_load_at rfl 60 (.tmp 12) rfl w.heap.size 0 rfl 64 (mdA (pad L) (padB bs)) (arr (pad L)) _ hbk2 hu rfl hi16 hpre ?_)
    | (go_at_call 76; refine (list_any L HV.out _).mono ?_; rintro e w3 ⟨u, rfl, hu3, hb3⟩; have HU3 := Lib.hid hu3; clear hu3; have hrk3 := hrk2.below hb3 hrk2.lt)
    | (refine wpList_store_row rfl 33 (.tmp 2) (.tmp 16) rfl (w.heap.size + 1) rfl #[.slice u L.length L.length, .slice (some ⟨w1.heap.size, 0, none⟩) L.length L.length] rfl 33 _ hrk3 hi2 rfl (by simp [Value.oneCell']) ?_))
  refine bodyPost_ret (results_cell_row rfl _ _ (w.heap.size + 1) 33 #[.slice u L.length L.length, .slice (some ⟨w1.heap.size, 0, none⟩) L.length L.length] (0, 0) _ rfl hrk3.row Try.underlying33 rfl hi2) rfl ?_
  have hbel := hbe2.trans (hb3.mono hbe2.size)
  have hWs2 := HWs.out
  have hg3 : Blk w2 w1.heap.size 4 (bls bs).toArray := by
    have e := hg2.out
    rw [splice_all _ _ (by simp [HLEN.out])] at e
    exact e
  have ho2 := hg3.own (lo := w.heap.size) (by omega) (by simp [maxLen]; omega)
  simp only [bls, List.length_map] at ho2
  have ho3 : Own (w3.setRow (w.heap.size + 1) #[.slice u L.length L.length, .slice (some ⟨w1.heap.size, 0, none⟩) L.length L.length]) w.heap.size w2.heap.size 4 (.slice (some ⟨w1.heap.size, 0, none⟩) bs.length bs.length) (bls bs) := (ho2.below hb3).keep (by simp) (fun g hg => by
    simp [Value.ownBlock] at hg
    subst hg
    exact setRow_other _ _ _ _ (by omega))
  have ho4 : Own (w3.setRow (w.heap.size + 1) #[.slice u L.length L.length, .slice (some ⟨w1.heap.size, 0, none⟩) L.length L.length]) w2.heap.size w3.heap.size 3 (.slice u L.length L.length) (ints L) := HU3.out.keep (by simp) (fun g hg => by
    have := HU3.out.base g hg
    exact setRow_other _ _ _ _ (by omega))
  refine ⟨u, some ⟨w1.heap.size, 0, none⟩, by rw [HLEN.out], ⟨w2.heap.size, by omega, by simpa using hb3.size, ho3, by simpa using ho4⟩, below_setRow' hbel (by omega) _⟩
end Go.Proofs.Ytgkghebjaedjmaa
namespace Go.Proofs.Ytgkghebjaedjmaa
open Go.RowKit NP
set_option maxRecDepth 100000
set_option linter.unusedVariables false
set_option linter.unusedSimpArgs false
theorem bitB_as (m k : Nat) : (((m : Int) / 2 ^ k).tmod 2 == 1) = bitB m k := by
  have e : ((m : Int) / 2 ^ k) = ((m / 2 ^ k : Nat) : Int) := by simp
  rw [e, show (2 : Int) = ((2 : Nat) : Int) from rfl, show ((m / 2 ^ k : Nat) : Int).tmod ((2 : Nat) : Int) = ((m / 2 ^ k % 2 : Nat) : Int) from rfl]
  unfold bitB
  rw [Bool.eq_iff_iff]
  simp
  omega
set_option maxHeartbeats 4000000 in
theorem withMarks_any (L : List Int) (hv : valid L = true) (a : Option Addr) (c B mask : Nat) (w : World) (h : Rd w B a (ints (crn L))) (hB : B ≤ w.heap.size) (hmask : mask < 65536) :
    Calls Try.prog 43 #[.agg (arr (pad L)), .slice a (crn L).length c, .int .i64 mask] w fun e w' => e = .returned (.agg (mdA (pad L) (padB (mkm L mask)))) ∧ Below w.heap.size w w' := by
  have hu := Try.underlying60
  have hum := Try.underlying64
  have hbd := valid_bd hv
  have hl16 := hbd.2.2.2
  have hpl := pad_len hl16
  have hcl := crn_len L
  have hi16 : (Try.prog.info? 60).map (·.size) = some (arr (pad L)).size := by rw [arr_size, hpl]; exact T_info35
  obtain ⟨W0, hW0⟩ : ∃ W0, w.alloc (.cells (arr (pad L)) 60) = W0 := ⟨_, rfl⟩
  have hb0 : Blk W0 w.heap.size 60 (arr (pad L)) := by rw [← hW0]; exact Blk.new w _ _
  have hz0 : w.heap.size < W0.heap.size := by rw [← hW0]; simp
  obtain ⟨W1, hW1⟩ : ∃ W1, W0.alloc (.cells #[.int .i64 0, .int .i64 0, .int .i64 0, .int .i64 0, .int .i64 0, .int .i64 0, .int .i64 0, .int .i64 0, .int .i64 0, .int .i64 0, .int .i64 0, .int .i64 0, .int .i64 0, .int .i64 0, .int .i64 0, .int .i64 0, .bool false, .bool false, .bool false, .bool false, .bool false, .bool false, .bool false, .bool false, .bool false, .bool false, .bool false, .bool false, .bool false, .bool false, .bool false, .bool false] 64) = W1 := ⟨_, rfl⟩
  have hb1 : Blk W1 w.heap.size 60 (arr (pad L)) := by rw [← hW1]; exact hb0.alloc _
  have hr1 : Blk W1 W0.heap.size 64 #[.int .i64 0, .int .i64 0, .int .i64 0, .int .i64 0, .int .i64 0, .int .i64 0, .int .i64 0, .int .i64 0, .int .i64 0, .int .i64 0, .int .i64 0, .int .i64 0, .int .i64 0, .int .i64 0, .int .i64 0, .int .i64 0, .bool false, .bool false, .bool false, .bool false, .bool false, .bool false, .bool false, .bool false, .bool false, .bool false, .bool false, .bool false, .bool false, .bool false, .bool false, .bool false] := by rw [← hW1]; exact Blk.new W0 _ _
  have hz1 : W0.heap.size < W1.heap.size := by rw [← hW1]; simp
  have hA1 : Below w.heap.size w W1 := by rw [← hW1, ← hW0]; exact ((Below.refl _ _).alloc (Nat.le_refl _) _).alloc (by simp) _
  have hB1 : ∀ w : World, (Instr.build 64 #[(0, .agg (arr (pad L)))]).run Try.prog w = .ok (.agg (mdA (pad L) (List.replicate 16 false))) w := fun w => T_bmd (pad L) hpl w
  have hiM : ∀ E : List Bool, E.length = 16 → (Try.prog.info? 64).map (·.size) = some (mdA (pad L) E).size := fun E hE => by rw [mdA_size, hpl, hE]; exact T_md
  obtain ⟨Y, hY⟩ : ∃ Y, Y = mdA (pad L) (List.replicate 16 false) := ⟨_, rfl⟩
  have hiY : (Try.prog.info? 64).map (·.size) = some Y.size := by rw [hY]; exact hiM _ (by simp)
  have hszY : Y.size = (#[.int .i64 0, .int .i64 0, .int .i64 0, .int .i64 0, .int .i64 0, .int .i64 0, .int .i64 0, .int .i64 0, .int .i64 0, .int .i64 0, .int .i64 0, .int .i64 0, .int .i64 0, .int .i64 0, .int .i64 0, .int .i64 0, .bool false, .bool false, .bool false, .bool false, .bool false, .bool false, .bool false, .bool false, .bool false, .bool false, .bool false, .bool false, .bool false, .bool false, .bool false, .bool false] : Array Value).size := by rw [hY, mdA_size, hpl]; rfl
  have honeY : ∀ v ∈ Y.toList, v.oneCell' = true := by rw [hY]; exact mdA_one _ _
  rw [← hY] at hB1
  have HY := Lib.hid hY
  have hb2 : Blk ((W1.alloc (.cells #[.int .i64 0, .int .i64 0, .int .i64 0, .int .i64 0, .int .i64 0, .int .i64 0, .int .i64 0, .int .i64 0, .int .i64 0, .int .i64 0, .int .i64 0, .int .i64 0, .int .i64 0, .int .i64 0, .int .i64 0, .int .i64 0, .bool false, .bool false, .bool false, .bool false, .bool false, .bool false, .bool false, .bool false, .bool false, .bool false, .bool false, .bool false, .bool false, .bool false, .bool false, .bool false] 64)).setRow W1.heap.size Y) W1.heap.size 64 Y := (Blk.new W1 64 #[.int .i64 0, .int .i64 0, .int .i64 0, .int .i64 0, .int .i64 0, .int .i64 0, .int .i64 0, .int .i64 0, .int .i64 0, .int .i64 0, .int .i64 0, .int .i64 0, .int .i64 0, .int .i64 0, .int .i64 0, .int .i64 0, .bool false, .bool false, .bool false, .bool false, .bool false, .bool false, .bool false, .bool false, .bool false, .bool false, .bool false, .bool false, .bool false, .bool false, .bool false, .bool false]).row
  have hA2 : Below W1.heap.size W1 ((W1.alloc (.cells #[.int .i64 0, .int .i64 0, .int .i64 0, .int .i64 0, .int .i64 0, .int .i64 0, .int .i64 0, .int .i64 0, .int .i64 0, .int .i64 0, .int .i64 0, .int .i64 0, .int .i64 0, .int .i64 0, .int .i64 0, .int .i64 0, .bool false, .bool false, .bool false, .bool false, .bool false, .bool false, .bool false, .bool false, .bool false, .bool false, .bool false, .bool false, .bool false, .bool false, .bool false, .bool false] 64)).setRow W1.heap.size Y) := below_setRow' ((Below.refl _ _).alloc (Nat.le_refl _) _) (Nat.le_refl _) _
  obtain ⟨W2, hW2⟩ : ∃ W2, (W1.alloc (.cells #[.int .i64 0, .int .i64 0, .int .i64 0, .int .i64 0, .int .i64 0, .int .i64 0, .int .i64 0, .int .i64 0, .int .i64 0, .int .i64 0, .int .i64 0, .int .i64 0, .int .i64 0, .int .i64 0, .int .i64 0, .int .i64 0, .bool false, .bool false, .bool false, .bool false, .bool false, .bool false, .bool false, .bool false, .bool false, .bool false, .bool false, .bool false, .bool false, .bool false, .bool false, .bool false] 64)).setRow W1.heap.size Y = W2 := ⟨_, rfl⟩
  rw [hW2] at hb2 hA2
  have hR2 : Rd W2 w.heap.size a (ints (crn L)) := ((h.more hB).below hA1).below (hA2.mono (by omega))
  have HST := Lib.hid (mkm_stM hv mask)
  have HW2 := Lib.hid hW2
  have HIM := Lib.hid hiM
  have HPL := Lib.hid hpl
  have HV := Lib.hid hv
  clear h hW2 hY hiM hv hpl hbd
  go_enter Try.func43, Try.ntmps43
  go_wp2_with (first
    | (refine wpList_load_row rfl 60 (.tmp 3) rfl w.heap.size rfl 60 (arr (pad L)) (0, 0) _ hb1 hu rfl hi16 ?_)
    | (refine wpList_exec rfl (exec_build1 (u1 := .agg (arr (pad L))) (v := .agg Y) 64 (.tmp 10) rfl rfl (hB1 _)) ?_)
    | (refine wpList_store_row rfl 64 (.tmp 7) (.tmp 11) rfl W1.heap.size rfl Y rfl 64 #[.int .i64 0, .int .i64 0, .int .i64 0, .int .i64 0, .int .i64 0, .int .i64 0, .int .i64 0, .int .i64 0, .int .i64 0, .int .i64 0, .int .i64 0, .int .i64 0, .int .i64 0, .int .i64 0, .int .i64 0, .int .i64 0, .bool false, .bool false, .bool false, .bool false, .bool false, .bool false, .bool false, .bool false, .bool false, .bool false, .bool false, .bool false, .bool false, .bool false, .bool false, .bool false] (Blk.new W1 _ _) hiY hszY honeY ?_; rw [HW2.out])
    | (rw [hW0])
    | (rw [hW1]))
  try rw [hW0]
  try rw [hW1]
  have hbr2 : Blk W2 W0.heap.size 64 #[.int .i64 0, .int .i64 0, .int .i64 0, .int .i64 0, .int .i64 0, .int .i64 0, .int .i64 0, .int .i64 0, .int .i64 0, .int .i64 0, .int .i64 0, .int .i64 0, .int .i64 0, .int .i64 0, .int .i64 0, .int .i64 0, .bool false, .bool false, .bool false, .bool false, .bool false, .bool false, .bool false, .bool false, .bool false, .bool false, .bool false, .bool false, .bool false, .bool false, .bool false, .bool false] := hr1.below hA2 hz1
  have hA3 : Below w.heap.size w W2 := hA1.trans (hA2.mono (by omega))
  have hGl := hb2.lt
  obtain ⟨G0, hG0⟩ : ∃ G0, W0.heap.size = G0 := ⟨_, rfl⟩
  obtain ⟨G, hG⟩ : ∃ G, W1.heap.size = G := ⟨_, rfl⟩
  rw [hG] at hb2 hGl hz1 ⊢
  rw [hG0] at hbr2 hz1 hz0 ⊢
  rw [HY.out] at hb2
  obtain ⟨f, hf⟩ : ∃ f, f = fun i => bitB mask (rnkC L i) := ⟨_, rfl⟩
  have HF := Lib.hid hf
  rw [← hf] at HST
  clear hb0 hb1 hr1 hA1 hA2 hG hG0 hf hW0 hW1 hB1
  go_loopw [14] (fun ii wr => ∃ k : Nat, k ≤ (crn L).length ∧ ii = .int .i64 k ∧ Below w.heap.size w wr ∧ Blk wr G0 64 #[.int .i64 0, .int .i64 0, .int .i64 0, .int .i64 0, .int .i64 0, .int .i64 0, .int .i64 0, .int .i64 0, .int .i64 0, .int .i64 0, .int .i64 0, .int .i64 0, .int .i64 0, .int .i64 0, .int .i64 0, .int .i64 0, .bool false, .bool false, .bool false, .bool false, .bool false, .bool false, .bool false, .bool false, .bool false, .bool false, .bool false, .bool false, .bool false, .bool false, .bool false, .bool false] ∧ Blk wr G 64 (mdA (pad L) (stM ((crn L).take k) f)) ∧ Rd wr w.heap.size a (ints (crn L))) (fun ii _ => (crn L).length - (intOf ii).toNat)
  case atStart => exact ⟨0, Nat.zero_le _, rfl, hA3, hbr2, hb2, hR2⟩
  case round =>
    obtain ⟨k, hk, rfl, hbel, hbr, hbG, hRr⟩ := hrel
    clear hA3 hbr2 hb2 hR2
    by_cases hlt : k < (crn L).length
    · have hlt' : (k : Int) < ((crn L).length : Int) := by omega
      obtain ⟨i, hxi, hil, -, -⟩ := crn_rank hlt
      have HSS := Lib.hid (mkm_step hlt mask i hxi)
      obtain ⟨b1, o1, rfl, hb1n, hc1⟩ := hRr.at_ hlt
      rw [hxi] at hc1
      have hi16i : (i : Int) < 16 := by omega
      have hEl : (stM ((crn L).take k) f).length = 16 := stM_len _ _
      have hcG : wr.cell? ⟨G, 16 + i, none⟩ = some (.bool ((stM ((crn L).take k) f)[i]'(by omega))) := by rw [hbG.cell (16 + i), mdA_bool _ _ HPL.out i (by omega)]
      have hfG : wr.frozen? ⟨G, 16 + i, none⟩ = false := hbG.free _
      have HSET : Hid ((mdA (pad L) (stM ((crn L).take k) f)).setIfInBounds (16 + i) (.bool (((mask : Int) / 2 ^ k).tmod 2 == 1)) = mdA (pad L) (stM ((crn L).take (k + 1)) f)) := Lib.hid (by
        rw [mdA_set _ _ HPL.out, bitB_as, HF.out, HSS.out])
      have HR := Lib.hid hRr
      have HBG := Lib.hid hbG
      have hk16 : k < 16 := by omega
      generalize (stM ((crn L).take k) f)[i]'_ = y at hcG
      clear hxi hEl hRr hbG hil
      go_wp2_with fail
      go_roundw
      case rel =>
        refine ⟨k + 1, by omega, by go_num, hbel.setCell (by show w.heap.size ≤ G; omega) _, hbr.off (by show G0 ≠ G; omega) _, ?_, ?_⟩
        · have e := HBG.out.set (16 + i) (.bool (((mask : Int) / 2 ^ k).tmod 2 == 1))
          rw [HSET.out] at e
          exact e
        · exact HR.out.below ((Below.refl _ _).setCell (p := ⟨G, 16 + i, none⟩) (by show w.heap.size ≤ G; omega) _)
      case measure => simp [intOf]; omega
    · obtain rfl : k = (crn L).length := by omega
      rw [List.take_of_length_le (Nat.le_refl _), HST.out] at hbG
      have hle : (padB (mkm L mask)).length = 16 := by rw [← HST.out]; exact stM_len _ _
      have hiQ := HIM.out _ hle
      have hszQ : (mdA (pad L) (padB (mkm L mask))).size = (#[.int .i64 0, .int .i64 0, .int .i64 0, .int .i64 0, .int .i64 0, .int .i64 0, .int .i64 0, .int .i64 0, .int .i64 0, .int .i64 0, .int .i64 0, .int .i64 0, .int .i64 0, .int .i64 0, .int .i64 0, .int .i64 0, .bool false, .bool false, .bool false, .bool false, .bool false, .bool false, .bool false, .bool false, .bool false, .bool false, .bool false, .bool false, .bool false, .bool false, .bool false, .bool false] : Array Value).size := by rw [mdA_size, HPL.out, hle]; rfl
      obtain ⟨Q, hQ⟩ : ∃ Q, Q = mdA (pad L) (padB (mkm L mask)) := ⟨_, rfl⟩
      have honeQ : ∀ v ∈ Q.toList, v.oneCell' = true := by rw [hQ]; exact mdA_one _ _
      rw [← hQ] at hbG hiQ hszQ
      have HQ := Lib.hid hQ
      clear hQ hle hRr
      go_wp2_with (first
        | (refine wpList_load_row rfl 64 (.tmp 7) rfl G rfl 64 Q (0, 0) _ hbG hum rfl hiQ ?_)
        | (refine wpList_store_row rfl 64 (.tmp 6) (.tmp 28) rfl G0 rfl Q rfl 64 _ hbr hiQ hszQ honeQ ?_))
      refine bodyPost_ret (results_cell_row rfl _ _ G0 64 Q (0, 0) _ rfl hbr.row hum rfl hiQ) rfl ?_
      rw [← HQ.out]
      exact ⟨rfl, below_setRow' hbel (by omega) _⟩
end Go.Proofs.Ytgkghebjaedjmaa
namespace Go.Proofs.Ytgkghebjaedjmaa
open Go.RowKit Go.Shelf
set_option maxRecDepth 8000
set_option linter.unusedVariables false
/-- what lies in cells of type T lies as it lay -/
structure KpT (T : TypeId) (W W' : World) : Prop where
  size : W.heap.size ≤ W'.heap.size
  same : ∀ (b : Nat) (cs : Array Value) (fr : Nat × Nat), W.heap[b]? = some (.cells cs T fr) → W'.heap[b]? = some (.cells cs T fr)
theorem KpT.refl (T : TypeId) (W : World) : KpT T W W := ⟨Nat.le_refl _, fun _ _ _ h => h⟩
theorem KpT.trans {T : TypeId} {A B C : World} (h : KpT T A B) (k : KpT T B C) : KpT T A C := ⟨Nat.le_trans h.size k.size, fun b cs fr hb => k.same b cs fr (h.same b cs fr hb)⟩
theorem KpT.below {T : TypeId} {W W' : World} (h : Below W.heap.size W W') : KpT T W W' :=
  ⟨h.size, fun b cs fr hb => (h.block b (Array.getElem?_eq_some_iff.1 hb).1).trans hb⟩
theorem KpT.putObj {T : TypeId} {W : World} {l : Nat} {o : Obj} (o' : Obj) (h : W.heap[l]? = some o) (ho : o.isCells = false) : KpT T W (W.putObj l o') :=
  ⟨by simp [World.putObj], fun b cs fr hb => by
    have hne : b ≠ l := by rintro rfl; rw [h] at hb; injection hb with hb; subst hb; simp [Obj.isCells] at ho
    exact (World.putObj_heap_other hne).trans hb⟩
theorem KpT.grown {T : TypeId} {W W' : World} {row : Option Nat} (h : W.grownBy W' row) (hr : ∀ r, row = some r → ∀ (cs : Array Value) (fr : Nat × Nat), W.heap[r]? ≠ some (.cells cs T fr)) : KpT T W W' :=
  ⟨h.size, fun b cs fr hb => (h.block b (Array.getElem?_eq_some_iff.1 hb).1 (fun e => hr b e.symm cs fr hb)).trans hb⟩

/-- J abides what the iterator does between two rounds: new blocks, draws, a store into a block of type T from B on -/
structure AbT {β : Type} (B : Nat) (T : TypeId) (J : β → World → Prop) : Prop where
  alloc : ∀ (s : β) (W : World) (o : Obj), J s W → J s (W.alloc o)
  drew : ∀ (s : β) (W : World) (n : Nat), J s W → J s (W.drewN n)
  cell : ∀ (s : β) (W : World) (b i : Nat) (v : Value) (cs : Array Value) (fr : Nat × Nat), J s W → B ≤ b → W.heap[b]? = some (.cells cs T fr) → J s (W.setCell ⟨b, i, none⟩ v)

/-- the contract of such an iterator -/
def SeqT {α : Type} (F : Fence) (n : Nat) (P : Program) (T : TypeId) (g : Nat) (lb : Array Value) (encs : α → Array Value) (S Sp : List α → Prop) (N : Nat) (w : World) : Prop :=
  ∀ (l : Nat) (J Jx : List α → World → Prop) (W : World), Below w.heap.size w W → AbT W.heap.size T J → AbT W.heap.size T Jx →
    (∀ pre x W1, J pre W1 → pre.length < N → YieldAt F (n - 1) P l (encs x) W1 fun e W' =>
      (e = .returned (.bool true) ∧ J (pre ++ [x]) W' ∧ KpT T W1 W') ∨ (e = .returned (.bool false) ∧ Jx (pre ++ [x]) W')) →
    J [] W →
    CallsIn F n P g (#[.func (.yield l) #[] #[]] ++ lb) W fun e W' => (∃ v, e = .returned v) ∧ ((∃ xs, S xs ∧ J xs W') ∨ (∃ pre, Sp pre ∧ Jx pre W'))

variable {F : Fence} {n : Nat} {P : Program}
/-- the caller's law -/
theorem wpIn_range_T {α : Type} {g : Operand} {ps : Array Tmp} {assign body : Code} {Q : Exit → Act → World → Prop} {a : Act} {w : World} (T : TypeId)
    (hro : F.round = none) (h1 : 1 ≤ n) {gf : Nat} {lb : Array Value} (hg : a.eval g = .func (.func gf) #[] lb) (hFg : F.fn gf) (eg : ∀ args w, (callFunc gf args).run P w = .ok (.enter gf args) w)
    {encs : α → Array Value} {S Sp : List α → Prop} {N : Nat} {w0 : World} (hseq : SeqT F (n - 1) P T gf lb encs S Sp N w0)
    (hb0 : Below w0.heap.size w0 w) (hps : ∀ x, (encs x).size = ps.size)
    (I : List α → World → Prop) (Ix : Code → List α → World → Prop) (hI : OwnFrom w.heap.size I) (hIx : ∀ c, OwnFrom w.heap.size (Ix c))
    (hT : AbT w.heap.size T I) (hTx : ∀ c, AbT w.heap.size T (Ix c)) (h0 : I [] w) (Ax : α → Act → World → Prop) (hAx : ∀ a', OwnFrom w.heap.size (fun x W => Ax x a' W))
    (hassign : ∀ (l : Nat) (pre : List α) (x : α) (W : World) (K : Act → World → Prop), I pre W → (∀ a' W', KeepsOthers W W' → KpT T W W' → I pre W' → Ax x a' W' → K a' W') →
      assign.wpIn (F.inRound l) (n - 1 - 1) P (Exit.then K (fun _ _ _ => False)) { tmps := (ps.zip (encs x)).foldl (fun t (p, v) => t.setIfInBounds p v) a.tmps, defers := [] } W)
    (hbody : ∀ (l : Nat) (pre : List α) (x : α) (a' : Act) (W : World), I pre W → Ax x a' W → pre.length < N → body.wpIn (F.inRound l) (n - 1 - 1) P (ownPostK (KpT T) I Ix (pre ++ [x]) W) a' W)
    (hdone : ∀ (D : Nat) (xs : List α) (W : World), w.heap.size ≤ D → S xs → I xs W → W.heap[D]? = some (.deferred (some [])) → Q .normal { a with defers := { target := .collected D, args := #[] } :: a.defers } W)
    (hstop : ∀ (D : Nat) (c : Code) (pre : List α) (W : World), w.heap.size ≤ D → Sp pre → Ix c pre W → W.heap[D]? = some (.deferred (some [])) → c.wpIn F n P Q { a with defers := { target := .collected D, args := #[] } :: a.defers } W) :
    (Code.rangeFunc g ps assign body).wpIn F n P Q a w := by
  refine wpIn_rangeFunc fun fn hfn => ?_
  rw [hro]
  obtain ⟨lp, hlp⟩ : ∃ lp : LoopState → Option Code → Loop, lp = fun st pe => { state := st, pending := pe, fn, tmps := a.tmps, params := ps, assign, body, defers := w.heap.size } := ⟨_, rfl⟩
  obtain ⟨V, hV⟩ : ∃ V, (w.alloc (.deferred (some []))).alloc (.loop (lp .ready none)) = V := ⟨_, rfl⟩
  have vL : V.heap[w.heap.size + 1]? = some (.loop (lp .ready none)) := by
    have := World.alloc_heap_new (w.alloc (.deferred (some []))) (.loop (lp .ready none))
    rw [World.size_alloc] at this
    rw [← hV]; exact this
  have vD : V.heap[w.heap.size]? = some (.deferred (some [])) := by
    rw [← hV]; exact (Below.heap_alloc _ _ _ (by simp)).trans (World.alloc_heap_new w _)
  have vI : I [] V := by rw [← hV]; exact hT.alloc _ _ _ (hT.alloc _ _ _ h0)
  have vB : Below w0.heap.size w0 V := by
    rw [← hV]; exact hb0.trans ((((Below.refl _ w).alloc (Nat.le_refl _) _).alloc (by simp) _).mono hb0.size)
  have vs : w.heap.size ≤ V.heap.size := by rw [← hV]; simp; omega
  -- what the law keeps of its own lies in blocks that are no cells
  have keepCell : ∀ {W : World} {b i : Nat} {v : Value} {cs : Array Value} {fr : Nat × Nat} {k : Nat} {o : Obj}, W.heap[b]? = some (.cells cs T fr) → W.heap[k]? = some o → o.isCells = false → (W.setCell ⟨b, i, none⟩ v).heap[k]? = some o := by
    intro W b i v cs fr k o hb hk ho
    have hne : k ≠ b := by rintro rfl; rw [hb] at hk; injection hk with hk; subst hk; simp [Obj.isCells] at ho
    exact (Below.heap_setCell W ⟨b, i, none⟩ v k hne).trans hk
  have keepNew : ∀ {W : World} {k : Nat} {o : Obj} (o' : Obj), W.heap[k]? = some o → (W.alloc o').heap[k]? = some o := fun {W k o} o' hk => (Below.heap_alloc W o' k (Array.getElem?_eq_some_iff.1 hk).1).trans hk
  refine ⟨w.heap.size + 1, [{ target := .collected w.heap.size, args := #[] }], V, { target := .fn (.func gf) lb, args := #[.func (.yield (w.heap.size + 1)) #[] #[]] }, V, gf,
    #[.func (.yield (w.heap.size + 1)) #[] #[]] ++ lb, V, ?_, ?_, ?_, ?_, fun _ => h1, ?_⟩
  · rw [← hV, hlp]; exact run_enterLoop_outer _ _ _ _ _
  · simp only [resolve, hg]
    simp [go_sem]
  · intro f' hf'; simp [Target.leads] at hf'; subst hf'; exact hFg
  · simp [invoke, go_sem, eg]
  · refine (hseq (w.heap.size + 1)
      (fun pre W => I pre W ∧ W.heap[w.heap.size + 1]? = some (.loop (lp .ready none)) ∧ W.heap[w.heap.size]? = some (.deferred (some [])))
      (fun pre W => ∃ c, Ix c pre W ∧ W.heap[w.heap.size + 1]? = some (.loop (lp .done (some c))) ∧ W.heap[w.heap.size]? = some (.deferred (some [])))
      V vB
      ⟨fun s W o h => ⟨hT.alloc s W o h.1, keepNew o h.2.1, keepNew o h.2.2⟩, fun s W k h => ⟨hT.drew s W k h.1, h.2.1, h.2.2⟩,
        fun s W b i v cs fr h hb hc => ⟨hT.cell s W b i v cs fr h.1 (Nat.le_trans vs hb) hc, keepCell hc h.2.1 rfl, keepCell hc h.2.2 rfl⟩⟩
      ⟨fun s W o h => by obtain ⟨c, h1, h2, h3⟩ := h; exact ⟨c, (hTx c).alloc s W o h1, keepNew o h2, keepNew o h3⟩, fun s W k h => by obtain ⟨c, h1, h2, h3⟩ := h; exact ⟨c, (hTx c).drew s W k h1, h2, h3⟩,
        fun s W b i v cs fr h hb hc => by obtain ⟨c, h1, h2, h3⟩ := h; exact ⟨c, (hTx c).cell s W b i v cs fr h1 (Nat.le_trans vs hb) hc, keepCell hc h2 rfl, keepCell hc h3 rfl⟩⟩
      ?_ ⟨vI, vL, vD⟩).mono ?_
    · rintro pre x W ⟨hi, hl, hk⟩ hlen
      have hlt : w.heap.size + 1 < W.heap.size := (Array.getElem?_eq_some_iff.1 hl).1
      have hy := run_yield (P := P) (args := encs x) hl (by rw [hlp]; exact hps x)
      rw [hlp] at hy
      refine ⟨fn, _, assign, body, hy, roundIn_of_wpIn hfn (hassign _ pre x W _ hi fun a' Wa hka hkp hia hax => ?_)⟩
      have hl' := hka.same _ _ hl rfl
      have hk' := hka.same _ _ hk rfl
      have hlt' : w.heap.size + 1 < Wa.heap.size := (Array.getElem?_eq_some_iff.1 hl').1
      refine ⟨_, run_beginRound hl' (by rw [hlp]), ?_⟩
      obtain ⟨W2, hW2⟩ : ∃ W2, Wa.putObj (w.heap.size + 1) (.loop { lp .ready none with state := .busy }) = W2 := ⟨_, rfl⟩
      have l2 : W2.heap[w.heap.size + 1]? = some (.loop { lp .ready none with state := .busy }) := by rw [← hW2]; exact World.putObj_heap_same hlt'
      have k2 : W2.heap[w.heap.size]? = some (.deferred (some [])) := by rw [← hW2]; exact (World.putObj_heap_other (by omega)).trans hk'
      have q2 : KpT T W W2 := by rw [← hW2]; exact hkp.trans (KpT.putObj _ hl' rfl)
      have i2 : I pre W2 := by rw [← hW2]; exact hI.putObj _ hia (by omega) hl' rfl
      have x2 : Ax x a' W2 := by rw [← hW2]; exact (hAx a').putObj _ hax (by omega) hl' rfl
      rw [hW2]
      refine wpIn_mono (hbody _ pre x _ _ i2 x2 hlen) ?_
      have fin : ∀ (jump : Option Code) (W3 : World), KeepsOthers W2 W3 →
          (Instr.endRound (w.heap.size + 1) jump).run P W3 = .ok (.bool jump.isNone) (W3.putObj (w.heap.size + 1) (.loop (lp (if jump.isNone then .ready else .done) jump))) ∧
          W3.heap[w.heap.size + 1]? = some (.loop { lp .ready none with state := .busy }) ∧
          (W3.putObj (w.heap.size + 1) (.loop (lp (if jump.isNone then .ready else .done) jump))).heap[w.heap.size + 1]? = some (.loop (lp (if jump.isNone then .ready else .done) jump)) ∧
          (W3.putObj (w.heap.size + 1) (.loop (lp (if jump.isNone then .ready else .done) jump))).heap[w.heap.size]? = some (.deferred (some [])) := fun jump W3 hk3 => by
        have l3 := hk3.same _ _ l2 rfl
        have hr := run_endRound (P := P) jump l3
        refine ⟨by rw [hlp] at hr ⊢; exact hr, l3, World.putObj_heap_same (Array.getElem?_eq_some_iff.1 l3).1, (World.putObj_heap_other (by omega)).trans (hk3.same _ _ k2 rfl)⟩
      rintro e a3 W3 hp
      cases e with
      | normal =>
        obtain ⟨hk3, hkp3, hi3⟩ := hp
        obtain ⟨hr, hl3, hl4, hk4⟩ := fin none W3 hk3
        exact ⟨_, _, hr, .inl ⟨rfl, ⟨hI.putObj _ hi3 (by omega) hl3 rfl, hl4, hk4⟩, (q2.trans hkp3).trans (KpT.putObj _ hl3 rfl)⟩⟩
      | ret =>
        obtain ⟨hk3, hi3⟩ := hp
        obtain ⟨hr, hl3, hl4, hk4⟩ := fin (some .ret) W3 hk3
        exact ⟨_, _, hr, .inr ⟨rfl, .ret, (hIx _).putObj _ hi3 (by omega) hl3 rfl, hl4, hk4⟩⟩
      | exit id =>
        obtain ⟨hk3, hi3⟩ := hp
        obtain ⟨hr, hl3, hl4, hk4⟩ := fin (some (.exit id)) W3 hk3
        exact ⟨_, _, hr, .inr ⟨rfl, .exit id, (hIx _).putObj _ hi3 (by omega) hl3 rfl, hl4, hk4⟩⟩
      | goto t =>
        obtain ⟨hk3, hi3⟩ := hp
        obtain ⟨hr, hl3, hl4, hk4⟩ := fin (some (.goto t)) W3 hk3
        exact ⟨_, _, hr, .inr ⟨rfl, .goto t, (hIx _).putObj _ hi3 (by omega) hl3 rfl, hl4, hk4⟩⟩
      | panic ch => exact hp.elim
      | outgrown => exact hp.elim
    · rintro e W2 ⟨⟨v, rfl⟩, (⟨xs, hS, hi, hl, hk⟩ | ⟨pre, hSp, c, hi, hl, hk⟩)⟩
      · exact ⟨none, _, by have := run_endLoop (P := P) hl (by rw [hlp]; simp); rw [hlp] at this; exact this, hdone _ xs _ (Nat.le_refl _) hS (hI.putObj _ hi (by omega) hl rfl) ((World.putObj_heap_other (by omega)).trans hk)⟩
      · exact ⟨some c, _, by have := run_endLoop (P := P) hl (by rw [hlp]; simp); rw [hlp] at this; exact this, hstop _ c pre _ (Nat.le_refl _) hSp ((hIx c).putObj _ hi (by omega) hl rfl) ((World.putObj_heap_other (by omega)).trans hk)⟩

theorem room_none {F : Fence} (hd : F.depth = none) (k : Nat) : F.room k := fun d h => by rw [hd] at h; cases h
/-- where no depth is asked the figures are all one -/
theorem yieldAt_any {F : Fence} (hd : F.depth = none) {m : Nat} (m' : Nat) {P : Program} {l : Nat} {args : Array Value} {W : World} {R : Ending → World → Prop} (h : YieldAt F m P l args W R) : YieldAt F m' P l args W R := by
  obtain ⟨fn, tmps, assign, body, hy, hR⟩ := h
  exact ⟨fn, tmps, assign, body, hy, ⟨hR.1, fun c cs _ => hR.2 c cs (room_none hd _)⟩⟩
theorem wpListIn_load_row {F : Fence} {n : Nat} {P : Program} {ops : Array Oper} {rest : List Oper} {o : Oper} {a : Act} {w : World} {Q : Exit → Act → World → Prop} (hgd : o.guard = none) (ty : TypeId) (x : Operand) (ho : o.op = .load ty x)
    (g : Nat) (hx : a.eval x = .pointer (some ⟨g, 0, none⟩)) (t : TypeId) (cs : Array Value) (fr : Nat × Nat) (d : TypeDesc) (hg : w.heap[g]? = some (.cells cs t fr))
    (hu : P.underlying ty = some d) (hd : (match d with | .struct _ | .array _ _ => true | _ => false) = true) (hi : (P.info? ty).map (·.size) = some cs.size)
    (h : wpListIn F n P ops Q rest (a.put o.dst (.agg cs)) w) : wpListIn F n P ops Q (o :: rest) a w :=
  wpListIn_plain hgd fun K hK => by
    unfold Oper.wpIn
    refine ⟨by simp [Oper.about, ho], ?_⟩
    rw [Oper.semAt_plain F _ _ (by rw [ho]; intro c hc; cases hc)]
    simp only [execOp, ho, hx, Instr.loadAt, Instr.sureAddr, Sem.run_bind, Sem.run_pure, Result.andThen_ok, run_loadVar_row w g t ty cs fr d hg hu hd hi]
    exact hK _ _ h
theorem wpListIn_store_row {F : Fence} {n : Nat} {P : Program} {ops : Array Oper} {rest : List Oper} {o : Oper} {a : Act} {w : World} {Q : Exit → Act → World → Prop} (hgd : o.guard = none) (ty : TypeId) (x v : Operand) (ho : o.op = .store ty x v)
    (g : Nat) (vs : Array Value) (hx : a.eval x = .pointer (some ⟨g, 0, none⟩)) (hv : a.eval v = .agg vs) (hrun : (storeVar ty ⟨g, 0, none⟩ (.agg vs)).run P w = .ok () (w.setRow g vs))
    (h : wpListIn F n P ops Q rest (a.put o.dst undef) (w.setRow g vs)) : wpListIn F n P ops Q (o :: rest) a w :=
  wpListIn_plain hgd fun K hK => by
    unfold Oper.wpIn
    refine ⟨by simp [Oper.about, ho], ?_⟩
    rw [Oper.semAt_plain F _ _ (by rw [ho]; intro c hc; cases hc)]
    simp only [execOp, ho, hx, hv, Instr.storeAt, Instr.sureAddr, Sem.run_bind, Sem.run_pure, Result.andThen_ok, hrun]
    exact hK _ _ h
end Go.Proofs.Ytgkghebjaedjmaa
namespace Go.Proofs.Ytgkghebjaedjmaa
namespace NP
set_option linter.unusedVariables false
def two (P Q : List Int) : Bool := valid P && valid Q && decide (sumL P + sumL Q ≤ 16)
def adp (P Q : List Int) : List Int := (List.range (max P.length Q.length)).map fun i => P.getD i 0 + Q.getD i 0
theorem adp_len (P Q : List Int) : (adp P Q).length = max P.length Q.length := by simp [adp]
theorem adp_getD (P Q : List Int) (i : Nat) : (adp P Q).getD i 0 = P.getD i 0 + Q.getD i 0 := by
  rcases Nat.lt_or_ge i (max P.length Q.length) with h | h
  · rw [getD_lt (by rw [adp_len]; exact h)]
    simp [adp]
  · rw [getD_ge (by rw [adp_len]; exact h), getD_ge (by omega), getD_ge (by omega)]
    rfl
theorem getD_nn {L : List Int} (hv : valid L = true) (i : Nat) : 0 ≤ L.getD i 0 ∧ L.getD i 0 ≤ 16 := by
  rcases Nat.lt_or_ge i L.length with h | h
  · rw [getD_lt h]
    have := preS_of_valid hv i h h
    omega
  · rw [getD_ge h]; omega
theorem getD_fall {L : List Int} (hv : valid L = true) (i : Nat) (h : 0 < i) : L.getD i 0 ≤ L.getD (i - 1) 0 := by
  rcases Nat.lt_or_ge i L.length with h1 | h1
  · rw [getD_lt h1, getD_lt (by omega)]
    exact (preS_of_valid hv i h1 h1).2.2 h
  · rw [getD_ge h1]; exact (getD_nn hv _).1
/-- the sum, by places -/
def sumTo (L : List Int) : Nat → Int
  | 0 => 0
  | n + 1 => sumTo L n + L.getD n 0
theorem sumTo_take (L : List Int) (n : Nat) : sumTo L n = sumL (L.take n) := by
  induction n with
  | zero => rfl
  | succ n ih =>
    rw [sumTo, ih]
    rcases Nat.lt_or_ge n L.length with h | h
    · rw [sumL_take_succ L n h, getD_lt h]
    · rw [getD_ge h, List.take_of_length_le h, List.take_of_length_le (by omega)]; omega
theorem sumTo_all (L : List Int) (n : Nat) (h : L.length ≤ n) : sumTo L n = sumL L := by rw [sumTo_take, List.take_of_length_le h]
theorem sumTo_add {A P Q : List Int} (h : ∀ i, A.getD i 0 = P.getD i 0 + Q.getD i 0) (n : Nat) : sumTo A n = sumTo P n + sumTo Q n := by
  induction n with
  | zero => rfl
  | succ n ih => rw [sumTo, sumTo, sumTo, ih, h]; omega
theorem adp_sum (P Q : List Int) : sumL (adp P Q) = sumL P + sumL Q := by
  rw [← sumTo_all (adp P Q) (max P.length Q.length) (by rw [adp_len]; exact Nat.le_refl _), sumTo_add (adp_getD P Q), sumTo_all P _ (Nat.le_max_left _ _), sumTo_all Q _ (Nat.le_max_right _ _)]
theorem two_out {P Q : List Int} (h : two P Q = true) : valid P = true ∧ valid Q = true ∧ sumL P + sumL Q ≤ 16 := by
  unfold two at h
  simp only [Bool.and_eq_true, decide_eq_true_eq] at h
  exact ⟨h.1.1, h.1.2, h.2⟩
theorem valid_adp {P Q : List Int} (h : two P Q = true) : valid (adp P Q) = true := by
  obtain ⟨hp, hq, hs⟩ := two_out h
  have hbp := valid_bd hp
  have hbq := valid_bd hq
  apply valid_of_preS
  · intro j hj _
    have e := adp_getD P Q j
    rw [getD_lt hj] at e
    have h1 := getD_nn hp j
    have h2 := getD_nn hq j
    rw [adp_len] at hj
    have h3 : 1 ≤ P.getD j 0 + Q.getD j 0 := by
      rcases Nat.lt_or_ge j P.length with h | h
      · have := getD_pos hp h; omega
      · have := getD_pos hq (by omega : j < Q.length); omega
    have h4 : P.getD j 0 + Q.getD j 0 ≤ 16 := by
      have a1 : P.getD j 0 ≤ sumL P := by
        rcases Nat.lt_or_ge j P.length with h | h
        · rw [getD_lt h]
          exact (elem_le_sum (fun x hx => by obtain ⟨n, hn, e⟩ := List.mem_iff_getElem.1 hx; have := preS_of_valid hp n hn hn; omega) h).1
        · rw [getD_ge h]; omega
      have a2 : Q.getD j 0 ≤ sumL Q := by
        rcases Nat.lt_or_ge j Q.length with h | h
        · rw [getD_lt h]
          exact (elem_le_sum (fun x hx => by obtain ⟨n, hn, e⟩ := List.mem_iff_getElem.1 hx; have := preS_of_valid hq n hn hn; omega) h).1
        · rw [getD_ge h]; omega
      omega
    refine ⟨by omega, by omega, fun h0 => ?_⟩
    have e2 := adp_getD P Q (j - 1)
    rw [getD_lt (by rw [adp_len]; omega)] at e2
    have := getD_fall hp j h0
    have := getD_fall hq j h0
    omega
  · rw [adp_sum]; exact hs
/-- what stands in the program's diagram when i places have been added to -/
def amid (P Q : List Int) (i : Nat) : List Int := (List.range 16).map fun j => if j < i then P.getD j 0 + Q.getD j 0 else P.getD j 0
theorem amid_len (P Q : List Int) (i : Nat) : (amid P Q i).length = 16 := by simp [amid]
theorem amid_get (P Q : List Int) (i j : Nat) (h : j < (amid P Q i).length) : (amid P Q i)[j] = if j < i then P.getD j 0 + Q.getD j 0 else P.getD j 0 := by simp [amid]
theorem amid_zero {P : List Int} (hp : P.length ≤ 16) (Q : List Int) : amid P Q 0 = pad P := by
  apply List.ext_getElem
  · rw [amid_len, pad_len hp]
  · intro j h1 h2
    rw [amid_get, if_neg (by omega), ← pad_getD hp, getD_lt h2]
theorem amid_set (P Q : List Int) (i : Nat) : (amid P Q i).set i (P.getD i 0 + Q.getD i 0) = amid P Q (i + 1) := by
  apply List.ext_getElem
  · rw [List.length_set, amid_len, amid_len]
  · intro j h1 h2
    by_cases hj : i = j
    · subst hj
      rw [List.getElem_set_self, amid_get, if_pos (by omega)]
    · rw [List.getElem_set_ne hj, amid_get, amid_get]
      split <;> split <;> first | rfl | omega
theorem amid_end {P Q : List Int} (h : two P Q = true) : amid P Q 16 = pad (adp P Q) := by
  have hv := valid_adp h
  have hl := (valid_bd hv).2.2.2
  apply List.ext_getElem
  · rw [amid_len, pad_len hl]
  · intro j h1 h2
    rw [amid_get, if_pos (by rw [amid_len] at h1; exact h1)]
    have e := pad_getD hl j
    rw [getD_lt h2, adp_getD] at e
    exact e.symm
def adpF (P Q : List Int) : List Int := if two P Q then adp P Q else []
theorem adpF_yes {P Q : List Int} (h : two P Q = true) : adpF P Q = adp P Q := by simp [adpF, h]
theorem adpF_no {P Q : List Int} (h : two P Q = false) : adpF P Q = [] := by simp [adpF, h]
theorem adpF_len (P Q : List Int) : (adpF P Q).length ≤ 16 := by
  unfold adpF
  split
  · rename_i h
    exact (valid_bd (valid_adp h)).2.2.2
  · simp
end NP
end Go.Proofs.Ytgkghebjaedjmaa
namespace Go.Proofs.Ytgkghebjaedjmaa
namespace NP
set_option linter.unusedVariables false
/-- the numbers times how often they come, up to n -/
def wti (L : List Int) : Nat → Int
  | 0 => 0
  | n + 1 => wti L n + ((n : Int) + 1) * eqc ((n : Int) + 1) L
def ctim (L : List Int) : Nat → Int
  | 0 => 0
  | n + 1 => ctim L n + eqc ((n : Int) + 1) L
theorem wti_nil (n : Nat) : wti [] n = 0 := by
  induction n with
  | zero => rfl
  | succ n ih => simp [wti, ih, eqc]
theorem ctim_nil (n : Nat) : ctim [] n = 0 := by
  induction n with
  | zero => rfl
  | succ n ih => simp [ctim, ih, eqc]
theorem wti_cons (x : Int) (r : List Int) (n : Nat) : wti (x :: r) n = wti r n + (if 1 ≤ x ∧ x ≤ n then x else 0) := by
  induction n with
  | zero => simp [wti]; omega
  | succ n ih =>
    simp only [wti, ih, eqc]
    by_cases hx : x = (n : Int) + 1
    · subst hx
      rw [if_pos rfl, if_neg (by omega), if_pos (by omega), Int.mul_add]
      omega
    · rw [if_neg hx, Int.zero_add]
      split <;> split <;> omega
theorem ctim_cons (x : Int) (r : List Int) (n : Nat) : ctim (x :: r) n = ctim r n + (if 1 ≤ x ∧ x ≤ n then 1 else 0) := by
  induction n with
  | zero => simp [ctim]; omega
  | succ n ih =>
    simp only [ctim, ih, eqc]
    by_cases hx : x = (n : Int) + 1
    · subst hx
      rw [if_pos rfl, if_neg (by omega), if_pos (by omega)]
      omega
    · rw [if_neg hx, Int.zero_add]
      split <;> split <;> omega
theorem wti_sum (L : List Int) (n : Nat) (h : ∀ x ∈ L, 1 ≤ x ∧ x ≤ n) : wti L n = sumL L := by
  induction L with
  | nil => rw [wti_nil]; rfl
  | cons x r ih =>
    rw [wti_cons, ih (fun y hy => h y (by simp [hy])), if_pos (h x (by simp))]
    simp [sumL]; omega
theorem ctim_len (L : List Int) (n : Nat) (h : ∀ x ∈ L, 1 ≤ x ∧ x ≤ n) : ctim L n = L.length := by
  induction L with
  | nil => rw [ctim_nil]; rfl
  | cons x r ih =>
    rw [ctim_cons, ih (fun y hy => h y (by simp [hy])), if_pos (h x (by simp))]
    simp
theorem sum_tim (L : List Int) (n : Nat) : sumL ((List.range n).map fun (j : Nat) => eqc ((j : Int) + 1) L) = ctim L n := by
  induction n with
  | zero => rfl
  | succ n ih => rw [List.range_succ, List.map_append, sumL_append, ih]; simp [ctim, sumL]
theorem valid_mem {L : List Int} (h : valid L = true) : ∀ x ∈ L, 1 ≤ x ∧ x ≤ (((L.headD 0).toNat : Nat) : Int) := by
  intro x hx
  have hg := head_ge h x hx
  obtain ⟨n, hn, e⟩ := List.mem_iff_getElem.1 hx
  have := preS_of_valid h n hn hn
  omega
theorem tim_sum {L : List Int} (h : valid L = true) : sumL (tim L) = L.length := by
  unfold tim
  rw [sum_tim]
  exact ctim_len L _ (valid_mem h)
theorem eqc_mul_bd (L : List Int) (n : Nat) (hn : n ≤ 16) (hl : L.length ≤ 16) : 0 ≤ ((n : Int) + 1) * eqc ((n : Int) + 1) L ∧ ((n : Int) + 1) * eqc ((n : Int) + 1) L ≤ 272 := by
  have h := eqc_bd ((n : Int) + 1) L
  generalize eqc ((n : Int) + 1) L = y at h ⊢
  have h1 : 0 ≤ ((n : Int) + 1) * y := Int.mul_nonneg (by omega) h.1
  have h2 : ((n : Int) + 1) * y ≤ 17 * 16 := Int.mul_le_mul (by omega) (by omega) h.1 (by omega)
  omega
theorem wti_bd (L : List Int) (hl : L.length ≤ 16) (n : Nat) (hn : n ≤ 17) : 0 ≤ wti L n ∧ wti L n ≤ 272 * n := by
  induction n with
  | zero => simp [wti]
  | succ n ih =>
    have := ih (by omega)
    have := eqc_mul_bd L n (by omega) hl
    simp only [wti]
    omega
theorem tim_conj {L : List Int} (h : valid L = true) (k : Nat) (hk : k < (L.headD 0).toNat) : eqc ((k : Int) + 1) L = cnt ((k : Int) + 1) L - (if k + 1 < (L.headD 0).toNat then cnt ((k : Int) + 2) L else 0) := by
  rw [eqc_cnt]
  split
  · congr 1
  · rename_i h1
    have e : cnt ((k : Int) + 1 + 1) L = 0 := by
      apply cnt_none
      intro x hx
      have := valid_mem h x hx
      omega
    omega
/-- how many numbers come -/
def nz (L : List Int) : Nat → Nat
  | 0 => 0
  | n + 1 => nz L n + (if 0 < eqc ((n : Int) + 1) L then 1 else 0)
theorem nz_nil (n : Nat) : nz [] n = 0 := by
  induction n with
  | zero => rfl
  | succ n ih => simp [nz, ih, eqc]
theorem nz_le (L : List Int) (n : Nat) : nz L n ≤ n := by
  induction n with
  | zero => simp [nz]
  | succ n ih => simp only [nz]; split <;> omega
theorem nz_cons (x : Int) (r : List Int) (n : Nat) : nz (x :: r) n = nz r n + (if 1 ≤ x ∧ x ≤ n ∧ eqc x r ≤ 0 then 1 else 0) := by
  induction n with
  | zero => simp [nz]; omega
  | succ n ih =>
    have e : eqc ((n : Int) + 1) (x :: r) = (if x = (n : Int) + 1 then 1 else 0) + eqc ((n : Int) + 1) r := rfl
    simp only [nz, ih]
    by_cases hx : x = (n : Int) + 1
    · subst hx
      have hb := (eqc_bd ((n : Int) + 1) r).1
      rw [if_pos rfl] at e
      split <;> split <;> split <;> split <;> omega
    · rw [if_neg hx, Int.zero_add] at e
      rw [e]
      split <;> split <;> split <;> omega
theorem fl_len_shift (p : Nat → Bool) (n : Nat) : (fl p (n + 1)).length = (if p 0 then 1 else 0) + (fl (fun i => p (i + 1)) n).length := by
  induction n with
  | zero => rw [fl_succ]; simp [fl]; split <;> simp_all
  | succ n ih =>
    rw [fl_succ, List.length_append, ih, fl_succ, List.length_append]
    split <;> split <;> simp_all <;> omega
theorem isC_tail (x : Int) (r : List Int) (i : Nat) : isC (x :: r) (i + 1) = isC r i := by
  unfold isC
  simp
theorem eqc_none (x : Int) (r : List Int) (h : ∀ y ∈ r, y < x) : eqc x r = 0 := by
  induction r with
  | nil => rfl
  | cons y t ih =>
    have := h y (by simp)
    simp only [eqc]
    rw [if_neg (by omega), ih (fun z hz => h z (by simp [hz]))]
    rfl
/-- falls: each at most the one ahead -/
def mono : List Int → Prop
  | [] => True
  | x :: r => (∀ y ∈ r, y ≤ x) ∧ mono r
theorem crn_nz (L : List Int) (hm : mono L) (n : Nat) (h : ∀ x ∈ L, 1 ≤ x ∧ x ≤ n) : (crn L).length = nz L n := by
  induction L with
  | nil => rw [nz_nil]; rfl
  | cons x r ih =>
    have ih' := ih hm.2 (fun y hy => h y (by simp [hy]))
    have hx := h x (by simp)
    rw [nz_cons, ← ih']
    unfold crn
    rw [crnTo_fl, crnTo_fl, List.length_cons, fl_len_shift, fl_congr _ (isC r) _ (fun i _ => isC_tail x r i)]
    rw [Nat.add_comm]
    congr 1
    cases r with
    | nil => simp [isC, eqc]; omega
    | cons y t =>
      have e : isC (x :: y :: t) 0 = decide (y < x) := by unfold isC; simp
      rw [e]
      have hy := hm.1 y (by simp)
      by_cases hyx : y < x
      · rw [decide_eq_true hyx]
        have e2 : eqc x (y :: t) = 0 := eqc_none x _ fun z hz => by
          rcases List.mem_cons.1 hz with rfl | hz
          · exact hyx
          · have := hm.2.1 z hz; omega
        rw [e2, if_pos rfl, if_pos (by omega)]
      · have hyx2 : y = x := by omega
        subst hyx2
        have := (eqc_bd y t).1
        rw [decide_eq_false hyx, if_neg (by simp), if_neg (by simp [eqc]; omega)]
theorem mono_of {L : List Int} (h : ∀ i (hi : i + 1 < L.length), L[i + 1] ≤ L[i]) : mono L := by
  induction L with
  | nil => trivial
  | cons x r ih =>
    have hr : mono r := ih fun i hi => by have := h (i + 1) (by simpa using hi); simpa using this
    refine ⟨fun y hy => ?_, hr⟩
    cases r with
    | nil => simp at hy
    | cons z t =>
      have h0 := h 0 (by simp)
      simp at h0
      rcases List.mem_cons.1 hy with rfl | hy
      · exact h0
      · exact Int.le_trans (hr.1 y hy) h0
theorem mono_valid {L : List Int} (h : valid L = true) : mono L := mono_of fun i hi => by
  have := (preS_of_valid h (i + 1) hi hi).2.2 (by omega)
  simpa using this
theorem crn_len_nz {L : List Int} (h : valid L = true) : (crn L).length = nz L (L.headD 0).toNat := crn_nz L (mono_valid h) _ (valid_mem h)
theorem nz_fl (L : List Int) (n : Nat) : (fl (fun i => decide (0 < eqc ((i : Int) + 1) L)) n).length = nz L n := by
  induction n with
  | zero => rfl
  | succ n ih =>
    rw [fl_succ, List.length_append, ih]
    simp only [nz]
    split <;> split <;> simp_all
theorem crn_conj_nz {L : List Int} (h : valid L = true) : (crn (conj L)).length = nz L (L.headD 0).toNat := by
  unfold crn
  rw [crnTo_fl, conj_len, fl_congr _ (fun i => decide (0 < eqc ((i : Int) + 1) L)) _ (fun i hi => ?_), nz_fl]
  have hi1 : i < (conj L).length := by rw [conj_len]; exact hi
  unfold isC
  rw [getD_lt hi1, conj_get, eqc_cnt]
  by_cases h1 : i + 1 < (conj L).length
  · rw [decide_eq_false (by omega), Bool.false_or, getD_lt h1, conj_get]
    have e : (((i + 1 : Nat) : Int) + 1) = (i : Int) + 1 + 1 := by omega
    rw [e]
    apply decide_eq_decide.2
    omega
  · rw [decide_eq_true (by omega), Bool.true_or]
    have e : cnt ((i : Int) + 1 + 1) L = 0 := by
      apply cnt_none
      intro x hx
      have := valid_mem h x hx
      rw [conj_len] at h1
      omega
    have e1 : 0 < cnt ((i : Int) + 1) L := by
      cases L with
      | nil => simp at hi
      | cons x r =>
        have := (cnt_bd ((i : Int) + 1) r).1
        simp only [cnt]
        simp only [List.headD_cons] at hi
        rw [if_pos (by omega)]
        omega
    rw [e, eq_comm, decide_eq_true_eq]
    omega
theorem fl_asc (p : Nat → Bool) (n : Nat) : ∀ i (h : i + 1 < (fl p n).length), (fl p n)[i] < (fl p n)[i + 1] := by
  have hp : (fl p n).Pairwise (· < ·) := by
    unfold fl
    rw [List.pairwise_map]
    exact (List.Pairwise.filter _ List.pairwise_lt_range).imp fun h => by simpa using h
  intro i h
  exact List.pairwise_iff_getElem.1 hp i (i + 1) (by omega) h (by omega)
theorem asc_of_eq {X Y : List Int} (e : X = Y) (h : ∀ i (hi : i + 1 < Y.length), Y[i] < Y[i + 1]) : ∀ i (hi : i + 1 < X.length), X[i] < X[i + 1] := by subst e; exact h
theorem get_of_eq {X Y : List Int} {f : Nat → Int} (e : X = Y) (h : ∀ k (hk : k < Y.length), Y[k] = f k) : ∀ k (hk : k < X.length), X[k] = f k := by subst e; exact h
end NP
end Go.Proofs.Ytgkghebjaedjmaa
