/-
  Walks of the program: ValidMarked, SplitMarked, TurnMarked.
-/
import Derived.Test.YtbbbfaollcklkaaW94
namespace Go.Proofs.Ytbbbfaollcklkaa
open Go.RowKit NP
set_option maxRecDepth 100000
set_option linter.unusedVariables false
set_option linter.unusedSimpArgs false
def tnL (L : List Int) (bs : List Bool) : List Int := if vmk L bs then conj L else []
def tnB (L : List Int) (bs : List Bool) : List Bool := if vmk L bs then tnM L bs else []
theorem tn_yes {L : List Int} {bs : List Bool} (h : vmk L bs = true) : tnL L bs = conj L ∧ tnB L bs = tnM L bs := by
  constructor
  · unfold tnL; rw [h]; rfl
  · unfold tnB; rw [h]; rfl
theorem tn_no {L : List Int} {bs : List Bool} (h : vmk L bs = false) : tnL L bs = [] ∧ tnB L bs = [] := by
  constructor
  · unfold tnL; rw [h]; rfl
  · unfold tnB; rw [h]; rfl
theorem tn_len (L : List Int) (bs : List Bool) : (tnL L bs).length ≤ 16 ∧ (tnB L bs).length = (tnL L bs).length := by
  cases h : vmk L bs with
  | false => rw [(tn_no h).1, (tn_no h).2]; exact ⟨by simp, rfl⟩
  | true =>
    rw [(tn_yes h).1, (tn_yes h).2]
    exact ⟨(valid_bd (valid_conj (vmk_iff.1 h).1)).2.2.2, mkOf_len _ _⟩
theorem own_nil3 (w : World) (lo hi : Nat) (e : TypeId) (h : hi ≤ w.heap.size) : Own w lo hi e (.slice none 0 0) [] := by
  have h0 := Own.nil w lo e
  exact ⟨h0.row, fun g hg => by simp [Value.ownBlock] at hg, h⟩
set_option maxHeartbeats 1000000 in
theorem iValidMarked_any (a1 a2 : Option Addr) (c1 c2 B1 B2 : Nat) (L : List Int) (bs : List Bool) (w : World) (h1 : Rd w B1 a1 (ints L)) (h2 : Rd w B2 a2 (bls bs)) (hB1 : B1 ≤ w.heap.size) (hB2 : B2 ≤ w.heap.size) (hl1 : L.length ≤ 4611686018427387904) (hl2 : bs.length ≤ 4611686018427387904) :
    Calls Try.prog 14 #[.agg #[.slice a1 L.length c1, .slice a2 bs.length c2]] w fun e w' => e = .returned (.bool (vmk L bs)) ∧ Below w.heap.size w w' := by
  have hum := Try.underlying53
  have hmu := Try.underlying28
  have hi2 : (Try.prog.info? 28).map (·.size) = some 2 := T_mk
  have hml := md_len L bs
  have hiM : (Try.prog.info? 53).map (·.size) = some (mdA (mdD L bs) (mdE L bs)).size := by rw [mdA_size, hml.1, hml.2]; exact T_md
  have hszM : (mdA (mdD L bs) (mdE L bs)).size = (#[.int .i64 0, .int .i64 0, .int .i64 0, .int .i64 0, .int .i64 0, .int .i64 0, .int .i64 0, .int .i64 0, .int .i64 0, .int .i64 0, .int .i64 0, .int .i64 0, .int .i64 0, .int .i64 0, .int .i64 0, .int .i64 0, .bool false, .bool false, .bool false, .bool false, .bool false, .bool false, .bool false, .bool false, .bool false, .bool false, .bool false, .bool false, .bool false, .bool false, .bool false, .bool false] : Array Value).size := by rw [mdA_size, hml.1, hml.2]; rfl
  have HMO : Hid (∀ w', Below w.heap.size w w' → Calls Try.prog 40 #[.agg #[.slice a1 L.length c1, .slice a2 bs.length c2]] w' fun e w'' => e = .returned (.tuple #[.agg (mdA (mdD L bs) (mdE L bs)), .bool (vmk L bs)]) ∧ Below w'.heap.size w' w'') := Lib.hid (fun w' hb => mdOf_any a1 a2 c1 c2 w.heap.size w.heap.size L bs w' ((h1.more hB1).below hb) ((h2.more hB2).below hb) hb.size hb.size hl1 hl2)
  obtain ⟨v, hv⟩ : ∃ v, v = vmk L bs := ⟨_, rfl⟩
  rw [← hv] at HMO
  obtain ⟨M, hM⟩ : ∃ M, M = mdA (mdD L bs) (mdE L bs) := ⟨_, rfl⟩
  have honeM : ∀ v ∈ M.toList, v.oneCell' = true := by rw [hM]; exact mdA_one _ _
  rw [← hM] at HMO hiM hszM
  have HM := Lib.hid hM
  have hb0 := Blk.new w 28 #[.slice a1 L.length c1, .slice a2 bs.length c2]
  have hbe0 : Below w.heap.size w (w.alloc (.cells #[.slice a1 L.length c1, .slice a2 bs.length c2] 28)) := (Below.refl _ _).alloc (Nat.le_refl _) _
  clear hM hml h1 h2
  rw [← hv]
  clear hv
  go_enter Try.func14, Try.ntmps14
  go_wp2_with (first
    | (refine wpList_load_row rfl 28 (.tmp 1) rfl w.heap.size rfl 28 #[.slice a1 L.length c1, .slice a2 bs.length c2] (0, 0) _ hb0 hmu rfl hi2 ?_)
    | (go_at_call 40; refine (HMO.out _ hbe0).mono ?_; rintro e w1 ⟨rfl, hb1⟩; have hbz := Blk.new w1 53 #[.int .i64 0, .int .i64 0, .int .i64 0, .int .i64 0, .int .i64 0, .int .i64 0, .int .i64 0, .int .i64 0, .int .i64 0, .int .i64 0, .int .i64 0, .int .i64 0, .int .i64 0, .int .i64 0, .int .i64 0, .int .i64 0, .bool false, .bool false, .bool false, .bool false, .bool false, .bool false, .bool false, .bool false, .bool false, .bool false, .bool false, .bool false, .bool false, .bool false, .bool false, .bool false]; have hbe1 := hbe0.trans (hb1.mono hbe0.size))
    | (refine wpList_store_row rfl 53 (.tmp 3) (.tmp 8) rfl w1.heap.size rfl M rfl 53 _ hbz hiM hszM honeM ?_))
  have hbb : Below w1.heap.size w1 ((w1.alloc (.cells #[.int .i64 0, .int .i64 0, .int .i64 0, .int .i64 0, .int .i64 0, .int .i64 0, .int .i64 0, .int .i64 0, .int .i64 0, .int .i64 0, .int .i64 0, .int .i64 0, .int .i64 0, .int .i64 0, .int .i64 0, .int .i64 0, .bool false, .bool false, .bool false, .bool false, .bool false, .bool false, .bool false, .bool false, .bool false, .bool false, .bool false, .bool false, .bool false, .bool false, .bool false, .bool false] 53)).setRow w1.heap.size M) := below_setRow' ((Below.refl _ _).alloc (Nat.le_refl _) _) (Nat.le_refl _) _
  have hbt := hbe1.trans (hbb.mono hbe1.size)
  go_ret
  exact ⟨rfl, hbt⟩
set_option maxHeartbeats 1000000 in
theorem iSplitMarked_any (a1 a2 : Option Addr) (c1 c2 B1 B2 : Nat) (L : List Int) (bs : List Bool) (w : World) (h1 : Rd w B1 a1 (ints L)) (h2 : Rd w B2 a2 (bls bs)) (hB1 : B1 ≤ w.heap.size) (hB2 : B2 ≤ w.heap.size) (hl1 : L.length ≤ 4611686018427387904) (hl2 : bs.length ≤ 4611686018427387904) :
    Calls Try.prog 17 #[.agg #[.slice a1 L.length c1, .slice a2 bs.length c2]] w fun e w' => ∃ aT cT aF cF, e = .returned (.tuple #[.slice aT (selF true L bs).length cT, .slice aF (selF false L bs).length cF]) ∧ Own w' w.heap.size w'.heap.size 3 (.slice aT (selF true L bs).length cT) (ints (selF true L bs)) ∧ Own w' w.heap.size w'.heap.size 3 (.slice aF (selF false L bs).length cF) (ints (selF false L bs)) ∧ (∀ g, Value.ownBlock (.slice aT (selF true L bs).length cT) = some g → Value.ownBlock (.slice aF (selF false L bs).length cF) = some g → False) ∧ Below w.heap.size w w' := by
  have hum := Try.underlying53
  have hmu := Try.underlying28
  have hi2 : (Try.prog.info? 28).map (·.size) = some 2 := T_mk
  have hml := md_len L bs
  have hiM : (Try.prog.info? 53).map (·.size) = some (mdA (mdD L bs) (mdE L bs)).size := by rw [mdA_size, hml.1, hml.2]; exact T_md
  have hszM : (mdA (mdD L bs) (mdE L bs)).size = (#[.int .i64 0, .int .i64 0, .int .i64 0, .int .i64 0, .int .i64 0, .int .i64 0, .int .i64 0, .int .i64 0, .int .i64 0, .int .i64 0, .int .i64 0, .int .i64 0, .int .i64 0, .int .i64 0, .int .i64 0, .int .i64 0, .bool false, .bool false, .bool false, .bool false, .bool false, .bool false, .bool false, .bool false, .bool false, .bool false, .bool false, .bool false, .bool false, .bool false, .bool false, .bool false] : Array Value).size := by rw [mdA_size, hml.1, hml.2]; rfl
  have HMO : Hid (∀ w', Below w.heap.size w w' → Calls Try.prog 40 #[.agg #[.slice a1 L.length c1, .slice a2 bs.length c2]] w' fun e w'' => e = .returned (.tuple #[.agg (mdA (mdD L bs) (mdE L bs)), .bool (vmk L bs)]) ∧ Below w'.heap.size w' w'') := Lib.hid (fun w' hb => mdOf_any a1 a2 c1 c2 w.heap.size w.heap.size L bs w' ((h1.more hB1).below hb) ((h2.more hB2).below hb) hb.size hb.size hl1 hl2)
  obtain ⟨v, hv⟩ : ∃ v, v = vmk L bs := ⟨_, rfl⟩
  rw [← hv] at HMO
  obtain ⟨M, hM⟩ : ∃ M, M = mdA (mdD L bs) (mdE L bs) := ⟨_, rfl⟩
  have honeM : ∀ v ∈ M.toList, v.oneCell' = true := by rw [hM]; exact mdA_one _ _
  rw [← hM] at HMO hiM hszM
  have HM := Lib.hid hM
  have hb0 := Blk.new w 28 #[.slice a1 L.length c1, .slice a2 bs.length c2]
  have hbe0 : Below w.heap.size w (w.alloc (.cells #[.slice a1 L.length c1, .slice a2 bs.length c2] 28)) := (Below.refl _ _).alloc (Nat.le_refl _) _
  clear hM hml h1 h2
  cases v with
  | false =>
    have HN1 := Lib.hid (selF_no (b := true) hv.symm)
    have HN2 := Lib.hid (selF_no (b := false) hv.symm)
    clear hv
    go_enter Try.func17, Try.ntmps17
    go_wp2_with (first
      | (refine wpList_load_row rfl 28 (.tmp 1) rfl w.heap.size rfl 28 #[.slice a1 L.length c1, .slice a2 bs.length c2] (0, 0) _ hb0 hmu rfl hi2 ?_)
      | (go_at_call 40; refine (HMO.out _ hbe0).mono ?_; rintro e w1 ⟨rfl, hb1⟩; have hbz := Blk.new w1 53 #[.int .i64 0, .int .i64 0, .int .i64 0, .int .i64 0, .int .i64 0, .int .i64 0, .int .i64 0, .int .i64 0, .int .i64 0, .int .i64 0, .int .i64 0, .int .i64 0, .int .i64 0, .int .i64 0, .int .i64 0, .int .i64 0, .bool false, .bool false, .bool false, .bool false, .bool false, .bool false, .bool false, .bool false, .bool false, .bool false, .bool false, .bool false, .bool false, .bool false, .bool false, .bool false]; have hbe1 := hbe0.trans (hb1.mono hbe0.size))
      | (refine wpList_store_row rfl 53 (.tmp 4) (.tmp 9) rfl w1.heap.size rfl M rfl 53 _ hbz hiM hszM honeM ?_))
    have hbb : Below w1.heap.size w1 ((w1.alloc (.cells #[.int .i64 0, .int .i64 0, .int .i64 0, .int .i64 0, .int .i64 0, .int .i64 0, .int .i64 0, .int .i64 0, .int .i64 0, .int .i64 0, .int .i64 0, .int .i64 0, .int .i64 0, .int .i64 0, .int .i64 0, .int .i64 0, .bool false, .bool false, .bool false, .bool false, .bool false, .bool false, .bool false, .bool false, .bool false, .bool false, .bool false, .bool false, .bool false, .bool false, .bool false, .bool false] 53)).setRow w1.heap.size M) := below_setRow' ((Below.refl _ _).alloc (Nat.le_refl _) _) (Nat.le_refl _) _
    have hbt := hbe1.trans (hbb.mono hbe1.size)
    go_ret2
    rw [HN1.out, HN2.out]
    exact ⟨none, 0, none, 0, rfl, Own.nil _ _ _, Own.nil _ _ _, fun g hg => by simp [Value.ownBlock] at hg, hbt⟩
  | true =>
    have hvm := vmk_iff.1 hv.symm
    have HY1 := Lib.hid (selF_yes (b := true) hv.symm)
    have HY2 := Lib.hid (selF_yes (b := false) hv.symm)
    have HMY : Hid (M = mdA (pad L) (padB bs)) := Lib.hid (by rw [HM.out, (md_yes hv.symm).1, (md_yes hv.symm).2])
    have HSP := Lib.hid (fun w => msplit_any L bs hvm.1 hvm.2.1 w)
    rw [← HMY.out] at HSP
    clear hv hvm
    go_enter Try.func17, Try.ntmps17
    go_wp2_with (first
      | (refine wpList_load_row rfl 28 (.tmp 1) rfl w.heap.size rfl 28 #[.slice a1 L.length c1, .slice a2 bs.length c2] (0, 0) _ hb0 hmu rfl hi2 ?_)
      | (go_at_call 40; refine (HMO.out _ hbe0).mono ?_; rintro e w1 ⟨rfl, hb1⟩; have hbz := Blk.new w1 53 #[.int .i64 0, .int .i64 0, .int .i64 0, .int .i64 0, .int .i64 0, .int .i64 0, .int .i64 0, .int .i64 0, .int .i64 0, .int .i64 0, .int .i64 0, .int .i64 0, .int .i64 0, .int .i64 0, .int .i64 0, .int .i64 0, .bool false, .bool false, .bool false, .bool false, .bool false, .bool false, .bool false, .bool false, .bool false, .bool false, .bool false, .bool false, .bool false, .bool false, .bool false, .bool false]; have hbe1 := hbe0.trans (hb1.mono hbe0.size); have hbz2 := hbz.row (vs := M))
      | (refine wpList_store_row rfl 53 (.tmp 4) (.tmp 9) rfl w1.heap.size rfl M rfl 53 _ hbz hiM hszM honeM ?_)
      | (refine wpList_load_row rfl 53 (.tmp 4) rfl w1.heap.size rfl 53 M (0, 0) _ hbz2 hum rfl hiM ?_)
      | (go_at_call 44; refine (HSP.out _).mono ?_; rintro e w2 ⟨aT, cT, aF, cF, rfl, oT, oF, ap, hb2⟩; have HT := Lib.hid oT; have HF := Lib.hid oF; have HAP := Lib.hid ap; clear oT oF ap))
    have hbb : Below w1.heap.size w1 ((w1.alloc (.cells #[.int .i64 0, .int .i64 0, .int .i64 0, .int .i64 0, .int .i64 0, .int .i64 0, .int .i64 0, .int .i64 0, .int .i64 0, .int .i64 0, .int .i64 0, .int .i64 0, .int .i64 0, .int .i64 0, .int .i64 0, .int .i64 0, .bool false, .bool false, .bool false, .bool false, .bool false, .bool false, .bool false, .bool false, .bool false, .bool false, .bool false, .bool false, .bool false, .bool false, .bool false, .bool false] 53)).setRow w1.heap.size M) := below_setRow' ((Below.refl _ _).alloc (Nat.le_refl _) _) (Nat.le_refl _) _
    have hbt := hbe1.trans (hbb.mono hbe1.size)
    go_ret2
    have hz := hbt.size
    rw [HY1.out, HY2.out]
    exact ⟨aT, cT, aF, cF, rfl, HT.out.lower (by simpa using hz), HF.out.lower (by simpa using hz), HAP.out, hbt.trans (hb2.mono hz)⟩
set_option maxHeartbeats 1000000 in
theorem iTurnMarked_any (a1 a2 : Option Addr) (c1 c2 B1 B2 : Nat) (L : List Int) (bs : List Bool) (w : World) (h1 : Rd w B1 a1 (ints L)) (h2 : Rd w B2 a2 (bls bs)) (hB1 : B1 ≤ w.heap.size) (hB2 : B2 ≤ w.heap.size) (hl1 : L.length ≤ 4611686018427387904) (hl2 : bs.length ≤ 4611686018427387904) :
    Calls Try.prog 34 #[.agg #[.slice a1 L.length c1, .slice a2 bs.length c2]] w fun e w' => ∃ b1 b2 d1 d2, e = .returned (.agg #[.slice b1 (tnL L bs).length d1, .slice b2 (tnB L bs).length d2]) ∧ (∃ m, w.heap.size ≤ m ∧ m ≤ w'.heap.size ∧ Own w' w.heap.size m 4 (.slice b2 (tnB L bs).length d2) (bls (tnB L bs)) ∧ Own w' m w'.heap.size 3 (.slice b1 (tnL L bs).length d1) (ints (tnL L bs))) ∧ Below w.heap.size w w' := by
  have hum := Try.underlying53
  have hmu := Try.underlying28
  have hi2 : (Try.prog.info? 28).map (·.size) = some 2 := T_mk
  have hml := md_len L bs
  have hiM : (Try.prog.info? 53).map (·.size) = some (mdA (mdD L bs) (mdE L bs)).size := by rw [mdA_size, hml.1, hml.2]; exact T_md
  have hszM : (mdA (mdD L bs) (mdE L bs)).size = (#[.int .i64 0, .int .i64 0, .int .i64 0, .int .i64 0, .int .i64 0, .int .i64 0, .int .i64 0, .int .i64 0, .int .i64 0, .int .i64 0, .int .i64 0, .int .i64 0, .int .i64 0, .int .i64 0, .int .i64 0, .int .i64 0, .bool false, .bool false, .bool false, .bool false, .bool false, .bool false, .bool false, .bool false, .bool false, .bool false, .bool false, .bool false, .bool false, .bool false, .bool false, .bool false] : Array Value).size := by rw [mdA_size, hml.1, hml.2]; rfl
  have HMO : Hid (∀ w', Below w.heap.size w w' → Calls Try.prog 40 #[.agg #[.slice a1 L.length c1, .slice a2 bs.length c2]] w' fun e w'' => e = .returned (.tuple #[.agg (mdA (mdD L bs) (mdE L bs)), .bool (vmk L bs)]) ∧ Below w'.heap.size w' w'') := Lib.hid (fun w' hb => mdOf_any a1 a2 c1 c2 w.heap.size w.heap.size L bs w' ((h1.more hB1).below hb) ((h2.more hB2).below hb) hb.size hb.size hl1 hl2)
  obtain ⟨v, hv⟩ : ∃ v, v = vmk L bs := ⟨_, rfl⟩
  rw [← hv] at HMO
  obtain ⟨M, hM⟩ : ∃ M, M = mdA (mdD L bs) (mdE L bs) := ⟨_, rfl⟩
  have honeM : ∀ v ∈ M.toList, v.oneCell' = true := by rw [hM]; exact mdA_one _ _
  rw [← hM] at HMO hiM hszM
  have HM := Lib.hid hM
  have hb0 := Blk.new w 28 #[.slice a1 L.length c1, .slice a2 bs.length c2]
  have hbe0 : Below w.heap.size w (w.alloc (.cells #[.slice a1 L.length c1, .slice a2 bs.length c2] 28)) := (Below.refl _ _).alloc (Nat.le_refl _) _
  have hb0' := hb0.alloc (.cells #[.slice none 0 0, .slice none 0 0] 28)
  have hr0 : Blk ((w.alloc (.cells #[.slice a1 L.length c1, .slice a2 bs.length c2] 28)).alloc (.cells #[.slice none 0 0, .slice none 0 0] 28)) (w.heap.size + 1) 28 #[.slice none 0 0, .slice none 0 0] := by
    have e := Blk.new (w.alloc (.cells #[.slice a1 L.length c1, .slice a2 bs.length c2] 28)) 28 #[.slice none 0 0, .slice none 0 0]
    rw [World.size_alloc] at e
    exact e
  have hbe0' := hbe0.alloc (by simp) (.cells #[.slice none 0 0, .slice none 0 0] 28)
  clear hb0 hbe0
  obtain ⟨W, hW⟩ : ∃ W, (w.alloc (.cells #[.slice a1 L.length c1, .slice a2 bs.length c2] 28)).alloc (.cells #[.slice none 0 0, .slice none 0 0] 28) = W := ⟨_, rfl⟩
  have hWs : w.heap.size + 2 ≤ W.heap.size := by rw [← hW]; simp
  rw [hW] at hb0' hr0 hbe0'
  have hb0 := hb0'
  have hbe0 := hbe0'
  clear hb0' hbe0'
  clear hM hml h1 h2
  cases v with
  | false =>
    have HN := Lib.hid (tn_no hv.symm)
    clear hv
    go_enter Try.func34, Try.ntmps34
    go_wp2_with (first
      | (refine wpList_load_row rfl 28 (.tmp 1) rfl w.heap.size rfl 28 #[.slice a1 L.length c1, .slice a2 bs.length c2] (0, 0) _ hb0 hmu rfl hi2 ?_)
      | (go_at_call 40; refine (HMO.out _ hbe0).mono ?_; rintro e w1 ⟨rfl, hb1⟩; have hbz := Blk.new w1 53 #[.int .i64 0, .int .i64 0, .int .i64 0, .int .i64 0, .int .i64 0, .int .i64 0, .int .i64 0, .int .i64 0, .int .i64 0, .int .i64 0, .int .i64 0, .int .i64 0, .int .i64 0, .int .i64 0, .int .i64 0, .int .i64 0, .bool false, .bool false, .bool false, .bool false, .bool false, .bool false, .bool false, .bool false, .bool false, .bool false, .bool false, .bool false, .bool false, .bool false, .bool false, .bool false]; have hbe1 := hbe0.trans (hb1.mono hbe0.size); have hr1 := hr0.below hb1 hr0.lt; have hr1' := (hr1.alloc (.cells #[.int .i64 0, .int .i64 0, .int .i64 0, .int .i64 0, .int .i64 0, .int .i64 0, .int .i64 0, .int .i64 0, .int .i64 0, .int .i64 0, .int .i64 0, .int .i64 0, .int .i64 0, .int .i64 0, .int .i64 0, .int .i64 0, .bool false, .bool false, .bool false, .bool false, .bool false, .bool false, .bool false, .bool false, .bool false, .bool false, .bool false, .bool false, .bool false, .bool false, .bool false, .bool false] 53)).rowOff (vs := M) (show w.heap.size + 1 ≠ w1.heap.size by have := hr1.lt; omega))
      | (refine wpList_store_row rfl 53 (.tmp 3) (.tmp 8) rfl w1.heap.size rfl M rfl 53 _ hbz hiM hszM honeM ?_)
      | (refine wpList_store_row rfl 28 (.tmp 2) (.tmp 12) rfl (w.heap.size + 1) rfl #[.slice none 0 0, .slice none 0 0] rfl 28 _ hr1' hi2 rfl (by simp [Value.oneCell']) ?_))
    have hbb : Below w1.heap.size w1 ((w1.alloc (.cells #[.int .i64 0, .int .i64 0, .int .i64 0, .int .i64 0, .int .i64 0, .int .i64 0, .int .i64 0, .int .i64 0, .int .i64 0, .int .i64 0, .int .i64 0, .int .i64 0, .int .i64 0, .int .i64 0, .int .i64 0, .int .i64 0, .bool false, .bool false, .bool false, .bool false, .bool false, .bool false, .bool false, .bool false, .bool false, .bool false, .bool false, .bool false, .bool false, .bool false, .bool false, .bool false] 53)).setRow w1.heap.size M) := below_setRow' ((Below.refl _ _).alloc (Nat.le_refl _) _) (Nat.le_refl _) _
    have hbt := hbe1.trans (hbb.mono hbe1.size)
    refine bodyPost_ret (results_cell_row rfl _ _ (w.heap.size + 1) 28 #[.slice none 0 0, .slice none 0 0] (0, 0) _ rfl hr1'.row hmu rfl hi2) rfl ?_
    rw [HN.out.1, HN.out.2]
    exact ⟨none, none, 0, 0, rfl, ⟨w.heap.size, Nat.le_refl _, by simpa using hbt.size, own_nil3 _ _ _ _ (by simpa using hbt.size), Own.nil _ _ _⟩, below_setRow' hbt (by omega) _⟩
  | true =>
    have hvm := vmk_iff.1 hv.symm
    have HY := Lib.hid (tn_yes hv.symm)
    have HMY : Hid (M = mdA (pad L) (padB bs)) := Lib.hid (by rw [HM.out, (md_yes hv.symm).1, (md_yes hv.symm).2])
    have HTN := Lib.hid (fun w => mturned_any L bs hvm.1 hvm.2.1 w)
    have HPP := Lib.hid (fun w => mparts_any (conj L) (tnM L bs) (valid_conj hvm.1) (mkOf_len _ _) w)
    rw [← HMY.out] at HTN
    clear hv hvm
    go_enter Try.func34, Try.ntmps34
    go_wp2_with (first
      | (refine wpList_load_row rfl 28 (.tmp 1) rfl w.heap.size rfl 28 #[.slice a1 L.length c1, .slice a2 bs.length c2] (0, 0) _ hb0 hmu rfl hi2 ?_)
      | (go_at_call 40; refine (HMO.out _ hbe0).mono ?_; rintro e w1 ⟨rfl, hb1⟩; have hbz := Blk.new w1 53 #[.int .i64 0, .int .i64 0, .int .i64 0, .int .i64 0, .int .i64 0, .int .i64 0, .int .i64 0, .int .i64 0, .int .i64 0, .int .i64 0, .int .i64 0, .int .i64 0, .int .i64 0, .int .i64 0, .int .i64 0, .int .i64 0, .bool false, .bool false, .bool false, .bool false, .bool false, .bool false, .bool false, .bool false, .bool false, .bool false, .bool false, .bool false, .bool false, .bool false, .bool false, .bool false]; have hbe1 := hbe0.trans (hb1.mono hbe0.size); have hr1 := hr0.below hb1 hr0.lt; have hr1' := (hr1.alloc (.cells #[.int .i64 0, .int .i64 0, .int .i64 0, .int .i64 0, .int .i64 0, .int .i64 0, .int .i64 0, .int .i64 0, .int .i64 0, .int .i64 0, .int .i64 0, .int .i64 0, .int .i64 0, .int .i64 0, .int .i64 0, .int .i64 0, .bool false, .bool false, .bool false, .bool false, .bool false, .bool false, .bool false, .bool false, .bool false, .bool false, .bool false, .bool false, .bool false, .bool false, .bool false, .bool false] 53)).rowOff (vs := M) (show w.heap.size + 1 ≠ w1.heap.size by have := hr1.lt; omega); have hbz2 := hbz.row (vs := M))
      | (refine wpList_store_row rfl 53 (.tmp 3) (.tmp 8) rfl w1.heap.size rfl M rfl 53 _ hbz hiM hszM honeM ?_)
      | (refine wpList_load_row rfl 53 (.tmp 3) rfl w1.heap.size rfl 53 M (0, 0) _ hbz2 hum rfl hiM ?_)
      | (go_at_call 65; refine (HTN.out _).mono ?_; rintro e w2 ⟨rfl, hb2⟩; have hr2 := hr1'.below hb2 hr1'.lt; have hz2 := hb2.size)
      | (go_at_call 49; refine (HPP.out _).mono ?_; rintro e w3 ⟨u1, u2, rfl, om, hb3⟩; have HOM := Lib.hid om; have hr3 := hr2.below hb3 hr2.lt; have hz3 := hb3.size; clear om)
      | (refine wpList_store_row rfl 28 (.tmp 2) (.tmp 15) rfl (w.heap.size + 1) rfl #[.slice u1 (conj L).length (conj L).length, .slice u2 (tnM L bs).length (tnM L bs).length] rfl 28 _ hr3 hi2 rfl (by simp [Value.oneCell']) ?_))
    have hbb : Below w1.heap.size w1 ((w1.alloc (.cells #[.int .i64 0, .int .i64 0, .int .i64 0, .int .i64 0, .int .i64 0, .int .i64 0, .int .i64 0, .int .i64 0, .int .i64 0, .int .i64 0, .int .i64 0, .int .i64 0, .int .i64 0, .int .i64 0, .int .i64 0, .int .i64 0, .bool false, .bool false, .bool false, .bool false, .bool false, .bool false, .bool false, .bool false, .bool false, .bool false, .bool false, .bool false, .bool false, .bool false, .bool false, .bool false] 53)).setRow w1.heap.size M) := below_setRow' ((Below.refl _ _).alloc (Nat.le_refl _) _) (Nat.le_refl _) _
    have hbt := hbe1.trans (hbb.mono hbe1.size)
    refine bodyPost_ret (results_cell_row rfl _ _ (w.heap.size + 1) 28 #[.slice u1 (conj L).length (conj L).length, .slice u2 (tnM L bs).length (tnM L bs).length] (0, 0) _ rfl hr3.row hmu rfl hi2) rfl ?_
    have hbu := hbt.trans (hb2.mono hbt.size)
    have hbx := hbu.trans (hb3.mono hbu.size)
    obtain ⟨m, hm1, hm2, om1, om2⟩ := HOM.out
    have hws := hbu.size
    rw [HY.out.1, HY.out.2]
    refine ⟨u1, u2, _, _, rfl, ⟨m, by omega, by simpa using hm2, ?_, ?_⟩, below_setRow' hbx (by omega) _⟩
    · refine (om1.keep (w' := w3.setRow (w.heap.size + 1) #[.slice u1 (conj L).length (conj L).length, .slice u2 (tnM L bs).length (tnM L bs).length]) (by simp) (fun g hg => ?_)).lower hws
      have := om1.base g hg
      have h9 := hr2.lt
      exact setRow_other _ _ _ _ (by omega)
    · have e := om2.keep (w' := w3.setRow (w.heap.size + 1) #[.slice u1 (conj L).length (conj L).length, .slice u2 (tnM L bs).length (tnM L bs).length]) (by simp) (fun g hg => by
        have := om2.base g hg
        have h9 := hr2.lt
        exact setRow_other _ _ _ _ (by omega))
      simpa using e
end Go.Proofs.Ytbbbfaollcklkaa
