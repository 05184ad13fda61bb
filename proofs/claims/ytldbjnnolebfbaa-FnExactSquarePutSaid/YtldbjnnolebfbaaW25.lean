/-
  Walks of the program: squares cut off and put back.
-/
import Derived.Test.YtldbjnnolebfbaaW24
import Derived.Test.YtldbjnnolebfbaaW13
namespace Go.Proofs.Ytldbjnnolebfbaa
open Go.RowKit NP
set_option linter.unusedVariables false
set_option linter.unusedSimpArgs false

theorem results_2cells {P : Program} {fn : Func} {p1 p2 : Tmp} {ty : TypeId} (h : fn.results = #[.cell p1 ty, .cell p2 ty]) (tmps : Array Value) (w : World) (g1 g2 : Nat) (c1 c2 : List Value) (d : TypeDesc)
    (hp1 : tmps.getD p1 undef = .pointer (some ⟨g1, 0, none⟩)) (hp2 : tmps.getD p2 undef = .pointer (some ⟨g2, 0, none⟩)) (h1 : w.rangeAt g1 0 c1) (h2 : w.rangeAt g2 0 c2)
    (hu : P.underlying ty = some d) (hd : d.isRow = true) (hi1 : (P.info? ty).map (·.size) = some c1.length) (hi2 : (P.info? ty).map (·.size) = some c2.length) :
    (results fn tmps).run P w = .ok (.tuple #[.agg c1.toArray, .agg c2.toArray]) w := by
  have hp1' : tmps[p1]?.getD undef = .pointer (some ⟨g1, 0, none⟩) := by simpa using hp1
  have hp2' : tmps[p2]?.getD undef = .pointer (some ⟨g2, 0, none⟩) := by simpa using hp2
  simp [results, h, hp1', hp2', asAddr, run_loadVar_mid w g1 0 ty c1 d h1 hu hd hi1, run_loadVar_mid w g2 0 ty c2 d h2 hu hd hi2]
theorem results_1cell {P : Program} {fn : Func} {p1 : Tmp} {ty : TypeId} (h : fn.results = #[.cell p1 ty]) (tmps : Array Value) (w : World) (g1 : Nat) (c1 : List Value) (d : TypeDesc)
    (hp1 : tmps.getD p1 undef = .pointer (some ⟨g1, 0, none⟩)) (h1 : w.rangeAt g1 0 c1)
    (hu : P.underlying ty = some d) (hd : d.isRow = true) (hi1 : (P.info? ty).map (·.size) = some c1.length) :
    (results fn tmps).run P w = .ok (.agg c1.toArray) w := by
  have hp1' : tmps[p1]?.getD undef = .pointer (some ⟨g1, 0, none⟩) := by simpa using hp1
  simp [results, h, hp1', asAddr, run_loadVar_mid w g1 0 ty c1 d h1 hu hd hi1]
theorem wpList_copy_apart {P : Program} {w : World} {ops : Array Oper} {rest : List Oper} {o : Oper} {a : Act} {Q : Exit → Act → World → Prop} (hgd : o.guard = none) (d s : Operand) (dT sT : TypeId)
    (ho : o.op = .call { callee := .builtin .copy, args := #[d, s], argTypes := #[dT, sT] }) (elem : TypeId) (hu : P.underlying dT = some (.slice elem)) (hsz : (P.info? elem).map (·.size) = some 1)
    (dp sp : Option Addr) (dLen dCap sLen sCap : Nat) (hd : a.eval d = .slice dp dLen dCap) (hs : a.eval s = .slice sp sLen sCap)
    (g off : Nat) (cur : List Value) (t : TypeId) (hg : w.heap[g]? = some (.cells cur.toArray t (0, 0))) (cs : List Value) (hn : cs.length = Nat.min sLen dLen)
    (hpos : 0 < cs.length → dp = some ⟨g, off, none⟩ ∧ ∃ ad, sp = some ad ∧ ∀ j v, cs[j]? = some v → w.cell? (ad.add j) = some v)
    (hfit : off + cs.length ≤ cur.length) (h1 : ∀ v ∈ cs, v.oneCell' = true) (B : Nat) (w0 : World) (hb : Below B w0 w) (hBg : B ≤ g)
    (h : ∀ w', Blk w' g t (splice cur off cs).toArray → (∀ q, q ≠ g → w'.heap[q]? = w.heap[q]?) → Below B w0 w' → wpList P ops Q rest (a.put o.dst (goInt cs.length)) w') :
    wpList P ops Q (o :: rest) a w := by
  by_cases h0 : cs.length = 0
  · obtain rfl : cs = [] := List.eq_nil_of_length_eq_zero h0
    refine wpList_copy_nothing hgd d s dT sT ho elem hu hsz dp sp dLen dCap sLen sCap hd hs (by simpa using hn.symm) ?_
    exact h w (show _ = _ by simpa [splice] using hg) (fun _ _ => rfl) hb
  · obtain ⟨rfl, ad, rfl, hsrc⟩ := hpos (by omega)
    refine wpList_copy_own hgd d s dT sT ho elem hu hsz g off dLen dCap ad sLen sCap hd hs cur.toArray t hg cs hn hsrc (by simpa using hfit) h1 ?_
    exact h _ (show _ = _ by simpa [splice] using setRow_heap w g _ _ t _ hg) (fun q hq => setRow_other w g q _ hq) (below_setRow hb hBg _)
def rowsOf (D : List Int) (n : Nat) : List Int := D.take n ++ List.replicate (16 - n) 0
def lowOf (D : List Int) (n : Nat) : List Int := D.drop n ++ List.replicate n 0
theorem rowsOf_len {D : List Int} {n : Nat} (hD : D.length = 16) (h : n ≤ 16) : (rowsOf D n).length = 16 := by simp [rowsOf, hD]; omega
theorem lowOf_len {D : List Int} {n : Nat} (hD : D.length = 16) (h : n ≤ 16) : (lowOf D n).length = 16 := by simp [lowOf, hD]; omega
theorem rowsOf_getD (D : List Int) (n j : Nat) (hn : n ≤ D.length) : (rowsOf D n).getD j 0 = if j < n then D.getD j 0 else 0 := by
  unfold rowsOf
  rw [getD_app, List.length_take_of_le hn, getD_take]
  split
  · rfl
  · rw [List.getD_eq_getElem?_getD, List.getElem?_replicate]; split <;> rfl
theorem splice_rows {D : List Int} {n : Nat} (hD : D.length = 16) (h : n ≤ 16) : splice (ints (List.replicate 16 0)) 0 (ints (D.take n)) = ints (rowsOf D n) := by
  have e : List.replicate 16 (0 : Int) = List.replicate n 0 ++ List.replicate (16 - n) 0 := by rw [List.replicate_append_replicate]; congr 1; omega
  have hl : (ints (D.take n)).length = n := by simp [hD]; omega
  unfold splice
  rw [List.take_zero, List.nil_append, Nat.zero_add, hl, e, rowsOf]
  simp
theorem splice_low {D : List Int} {n : Nat} (hD : D.length = 16) (h : n ≤ 16) : splice (ints (List.replicate 16 0)) 0 (ints (D.drop n)) = ints (lowOf D n) := by
  have e : List.replicate 16 (0 : Int) = List.replicate (16 - n) 0 ++ List.replicate n 0 := by rw [List.replicate_append_replicate]; congr 1; omega
  have hl : (ints (D.drop n)).length = 16 - n := by simp [hD]
  unfold splice
  rw [List.take_zero, List.nil_append, Nat.zero_add, hl, e, lowOf]
  simp
theorem rng_of {w : World} {g : Nat} {t : TypeId} {D : List Int} (h : Blk w g t (arr D)) : w.rangeAt g 0 (ints D) := Blk.range (vs := ints D) h

set_option maxHeartbeats 4000000 in
theorem sqcut_any (n : Nat) (hn : n ≤ 4) (D : List Int) (hD : D.length = 16) (hb : ∀ i, 0 ≤ D.getD i 0 ∧ D.getD i 0 ≤ 1000) (w : World) :
    Calls Try.prog 45 #[.int .i64 n, .agg (arr D)] w fun e w' => e = .returned (.tuple #[.agg (arr (amid (rowsOf D n) (neg (pad (sqs n))) 16)), .agg (arr (lowOf D n))]) ∧ Below w.heap.size w w' := by
  have hps : (pad (sqs n)).length = 16 := by rw [← fillN_end, fillN_len n _ (by omega)]
  have hrl := rowsOf_len (n := n) hD (by omega)
  have hll := lowOf_len (n := n) hD (by omega)
  have hbR : ∀ i, (0 ≤ (rowsOf D n).getD i 0 ∧ (rowsOf D n).getD i 0 ≤ 1000) ∧ (0 ≤ (pad (sqs n)).getD i 0 ∧ (pad (sqs n)).getD i 0 ≤ 1000) := fun i => by
    refine ⟨?_, ?_⟩
    · rw [rowsOf_getD D n i (by omega)]
      split
      · exact hb i
      · omega
    · rw [pad_getD (by simp [sqs]; omega), sqs_getD]
      split <;> omega
  have HBR := Lib.hid hbR
  have HPS := Lib.hid hps
  have HRL := Lib.hid hrl
  have hiR : (Try.prog.info? 40).map (·.size) = some (ints (rowsOf D n)).length := by rw [List.length_map, hrl]; exact T_info35
  have hlR : (ints (rowsOf D n)).length = 16 := by rw [List.length_map, hrl]
  have hzR : (ints (rowsOf D n)).toArray.size = 16 := by rw [List.size_toArray]; exact hlR
  have h1R := ints_one (rowsOf D n)
  have hiLw : (Try.prog.info? 40).map (·.size) = some (ints (lowOf D n)).length := by rw [List.length_map, hll]; exact T_info35
  have hlLw : (ints (lowOf D n)).length = 16 := by rw [List.length_map, hll]
  have hzLw : (ints (lowOf D n)).toArray.size = 16 := by rw [List.size_toArray]; exact hlLw
  have h1Lw := ints_one (lowOf D n)
  have hiA : (Try.prog.info? 40).map (·.size) = some (ints (amid (rowsOf D n) (neg (pad (sqs n))) 16)).length := by rw [List.length_map, amid_len]; exact T_info35
  have hlA : (ints (amid (rowsOf D n) (neg (pad (sqs n))) 16)).length = 16 := by rw [List.length_map, amid_len]
  have hzA : (ints (amid (rowsOf D n) (neg (pad (sqs n))) 16)).toArray.size = 16 := by rw [List.size_toArray]; exact hlA
  have h1A := ints_one (amid (rowsOf D n) (neg (pad (sqs n))) 16)
  have hu := Try.underlying40
  have hsr := splice_rows (n := n) hD (by omega)
  have hsl := splice_low (n := n) hD (by omega)
  have HSR := Lib.hid hsr
  have HSL := Lib.hid hsl
  obtain ⟨i0, hi, hz0, hz1, hz2⟩ := T_int'
  obtain ⟨wA, hwA⟩ : ∃ wA, wA = ((((w.alloc (.cells (arr D) 40)).alloc (.cells (#[.int .i64 0, .int .i64 0, .int .i64 0, .int .i64 0, .int .i64 0, .int .i64 0, .int .i64 0, .int .i64 0, .int .i64 0, .int .i64 0, .int .i64 0, .int .i64 0, .int .i64 0, .int .i64 0, .int .i64 0, .int .i64 0]) 40)).alloc (.cells (#[.int .i64 0, .int .i64 0, .int .i64 0, .int .i64 0, .int .i64 0, .int .i64 0, .int .i64 0, .int .i64 0, .int .i64 0, .int .i64 0, .int .i64 0, .int .i64 0, .int .i64 0, .int .i64 0, .int .i64 0, .int .i64 0]) 40)).alloc (.cells (#[.int .i64 0, .int .i64 0, .int .i64 0, .int .i64 0, .int .i64 0, .int .i64 0, .int .i64 0, .int .i64 0, .int .i64 0, .int .i64 0, .int .i64 0, .int .i64 0, .int .i64 0, .int .i64 0, .int .i64 0, .int .i64 0]) 40)).alloc (.cells (#[.int .i64 0, .int .i64 0, .int .i64 0, .int .i64 0, .int .i64 0, .int .i64 0, .int .i64 0, .int .i64 0, .int .i64 0, .int .i64 0, .int .i64 0, .int .i64 0, .int .i64 0, .int .i64 0, .int .i64 0, .int .i64 0]) 40) := ⟨_, rfl⟩
  have k0 : Blk wA w.heap.size 40 (arr D) := by rw [hwA]; exact ((((Blk.new w 40 (arr D)).alloc _).alloc _).alloc _).alloc _
  have k1 : Blk wA (w.heap.size + 1) 40 (arr (List.replicate 16 0)) := by
    rw [hwA]
    have e := Blk.new (w.alloc (.cells (arr D) 40)) 40 (arr (List.replicate 16 0))
    rw [World.size_alloc] at e
    exact ((e.alloc _).alloc _).alloc _
  have k2 : Blk wA (w.heap.size + 2) 40 (arr (List.replicate 16 0)) := by
    rw [hwA]
    have e := Blk.new ((w.alloc (.cells (arr D) 40)).alloc (.cells (arr (List.replicate 16 0)) 40)) 40 (arr (List.replicate 16 0))
    rw [World.size_alloc, World.size_alloc] at e
    exact (e.alloc _).alloc _
  have k3 : Blk wA (w.heap.size + 3) 40 (arr (List.replicate 16 0)) := by
    rw [hwA]
    have e := Blk.new (((w.alloc (.cells (arr D) 40)).alloc (.cells (arr (List.replicate 16 0)) 40)).alloc (.cells (arr (List.replicate 16 0)) 40)) 40 (arr (List.replicate 16 0))
    rw [World.size_alloc, World.size_alloc, World.size_alloc] at e
    exact e.alloc _
  have k4 : Blk wA (w.heap.size + 4) 40 (arr (List.replicate 16 0)) := by
    rw [hwA]
    have e := Blk.new ((((w.alloc (.cells (arr D) 40)).alloc (.cells (arr (List.replicate 16 0)) 40)).alloc (.cells (arr (List.replicate 16 0)) 40)).alloc (.cells (arr (List.replicate 16 0)) 40)) 40 (arr (List.replicate 16 0))
    rw [World.size_alloc, World.size_alloc, World.size_alloc, World.size_alloc] at e
    exact e
  have hbA : Below w.heap.size w wA := by
    rw [hwA]
    exact (((((Below.refl _ _).alloc (Nat.le_refl _) _).alloc (by simp) _).alloc (by simp; omega) _).alloc (by simp; omega) _).alloc (by simp; omega) _
  have hn16 : (n : Int) ≤ 16 := by omega
  have hn16' : (n : Int) < 16 := by omega
  have hne : ¬ 16 = n := by omega
  have hcD := Lib.hid hD
  clear hbR hps hrl hll hsr hsl hD hb
  go_enter Try.func45, Try.ntmps45
  go_wp2_with fail
  rw [← hwA]
  clear hwA
  go_still_tail 4, (by kernel_rfl)
  change wpList _ _ _ _ _ wA.drew
  replace k0 := k0.drew
  replace k1 := k1.drew
  replace k2 := k2.drew
  replace k3 := k3.drew
  replace k4 := k4.drew
  replace hbA : Below w.heap.size w wA.drew := hbA.trans ((Dr.n wA 1).below _)
  generalize wA.drew = wB at *
  have hc1 : ∀ j v, (ints (D.take n))[j]? = some v → wB.cell? ((⟨w.heap.size, 0, none⟩ : Addr).add j) = some v := fun j v hv => by
    rw [Addr.add_lit, k0.cell]
    rw [List.getElem?_map, List.getElem?_take] at hv
    simp only [arr, ints, Nat.zero_add]
    rw [List.getElem?_toArray, List.getElem?_map]
    split at hv
    · exact hv
    · cases hv
  have hL1 : (ints (D.take n)).length = Nat.min n 16 := by rw [List.length_map, List.length_take, hcD.out]
  have hL1b : 0 + (ints (D.take n)).length ≤ (ints (List.replicate 16 0)).length := by rw [hL1, Nat.zero_add]; exact Nat.min_le_right _ _
  have hL2 : (ints (D.drop n)).length = Nat.min (16 - n) 16 := by rw [List.length_map, List.length_drop, hcD.out]; exact (Nat.min_eq_left (by omega)).symm
  have hL2b : 0 + (ints (D.drop n)).length ≤ (ints (List.replicate 16 0)).length := by rw [hL2, Nat.zero_add]; exact Nat.min_le_right _ _
  go_wp2_with ((with_reducible show wpList _ _ _ (Oper.mk _ (Op.call (Call.mk (Callee.builtin Builtin.copy) _ _)) _ _ _ _ :: _) _ _); go_loud (refine wpList_copy_apart rfl (.tmp 8) (.tmp 11) 22 22 rfl 3 Try.underlying22 (by rw [hi]; simp [hz1]) (some ⟨w.heap.size + 3, 0, none⟩) (some ⟨w.heap.size, 0, none⟩) 16 16 n n rfl rfl (w.heap.size + 3) 0 (ints (List.replicate 16 0)) 40 k3 (ints (D.take n)) hL1 (fun _ => ⟨rfl, _, rfl, hc1⟩) hL1b (ints_one _) w.heap.size w hbA (by omega) ?_); intro wC kC hoC hbC)
  rw [HSR.out] at kC
  replace k0 : Blk wC w.heap.size 40 (arr D) := (hoC _ (by omega)).trans k0
  replace k1 : Blk wC (w.heap.size + 1) 40 (arr (List.replicate 16 0)) := (hoC _ (by omega)).trans k1
  replace k2 : Blk wC (w.heap.size + 2) 40 (arr (List.replicate 16 0)) := (hoC _ (by omega)).trans k2
  replace k4 : Blk wC (w.heap.size + 4) 40 (arr (List.replicate 16 0)) := (hoC _ (by omega)).trans k4
  clear hbA hoC k3 hc1 hL1 hL1b
  go_still_tail 3, (by kernel_rfl)
  change wpList _ _ _ _ _ wC.drew
  replace k0 := k0.drew
  replace k1 := k1.drew
  replace k2 := k2.drew
  replace kC := kC.drew
  replace k4 := k4.drew
  replace hbC : Below w.heap.size w wC.drew := hbC.trans ((Dr.n wC 1).below _)
  generalize wC.drew = wE at *
  have hc2 : ∀ j v, (ints (D.drop n))[j]? = some v → wE.cell? ((⟨w.heap.size, n, none⟩ : Addr).add j) = some v := fun j v hv => by
    rw [Addr.add_lit, k0.cell]
    rw [List.getElem?_map, List.getElem?_drop] at hv
    simp only [arr, ints]
    rw [List.getElem?_toArray, List.getElem?_map]
    exact hv
  go_wp2_with ((with_reducible show wpList _ _ _ (Oper.mk _ (Op.call (Call.mk (Callee.builtin Builtin.copy) _ _)) _ _ _ _ :: _) _ _); go_loud (refine wpList_copy_apart rfl (.tmp 13) (.tmp 15) 22 22 rfl 3 Try.underlying22 (by rw [hi]; simp [hz1]) (some ⟨w.heap.size + 4, 0, none⟩) (some ⟨w.heap.size, n, none⟩) 16 16 (16 - n) (16 - n) rfl rfl (w.heap.size + 4) 0 (ints (List.replicate 16 0)) 40 k4 (ints (D.drop n)) hL2 (fun _ => ⟨rfl, _, rfl, hc2⟩) hL2b (ints_one _) w.heap.size w hbC (by omega) ?_); intro wD kD hoD hbD)
  rw [HSL.out] at kD
  replace k1 : Blk wD (w.heap.size + 1) 40 (arr (List.replicate 16 0)) := (hoD _ (by omega)).trans k1
  replace k2 : Blk wD (w.heap.size + 2) 40 (arr (List.replicate 16 0)) := (hoD _ (by omega)).trans k2
  replace kC : Blk wD (w.heap.size + 3) 40 (ints (rowsOf D n)).toArray := (hoD _ (by omega)).trans kC
  have r3 := kC.range
  have r4 := kD.range
  have t1 := k1.there
  have t2 := k2.there
  clear hbC hoD k0 k4 hc2 hL2 hL2b k1 k2 kC kD
  refine wp_region_held_drew (S := (fun w' => w'.rangeAt (w.heap.size + 3) 0 (ints (rowsOf D n)) ∧ w'.rangeAt (w.heap.size + 4) 0 (ints (lowOf D n)) ∧ w'.there (w.heap.size + 1) 0 16 ∧ w'.there (w.heap.size + 2) 0 16 ∧ Below w.heap.size w w')) (by kernel_rfl) ⟨r3, r4, t1, t2, hbD.trans ((Dr.n wD 1).below _)⟩ (fun hHeld => ?_)
  refine wpAnyH_take (i := 0) (v := _) (by simp only [List.getElem?_toArray, List.getElem?_cons_succ, List.getElem?_cons_zero]; exact rfl) (by kernel_rfl) (by kernel_rfl) (by kernel_rfl) (by intro _ _ _ h; exact h) (yieldsIf_load_mid (by kernel_rfl) _ _ rfl (w.heap.size + 3) 0 rfl (ints (rowsOf D n)) _ (fun _ hw => hw.1) hu rfl hiR) (by assumption) ?_
  simp only [Act.put, List.setIfInBounds_toArray, List.set_cons_zero, List.set_cons_succ, List.toList_toArray]
  refine wpAnyH_take (i := 1) (v := .int .i64 (n : Int)) (by simp only [List.getElem?_toArray, List.getElem?_cons_succ, List.getElem?_cons_zero]; exact rfl) (by kernel_rfl) (by kernel_rfl) (by kernel_rfl) (by intro _ _ _ h; exact h) (Or.inl ⟨by kernel_rfl, by intro w hSw; go_simp⟩) (by assumption) ?_
  simp only [Act.put, List.setIfInBounds_toArray, List.set_cons_zero, List.set_cons_succ, List.toList_toArray]
  refine wpAnyH_take (i := 4) (v := _) (by simp only [List.getElem?_toArray, List.getElem?_cons_succ, List.getElem?_cons_zero]; exact rfl) (by kernel_rfl) (by kernel_rfl) (by kernel_rfl) (by intro _ _ _ h; exact h) (yieldsIf_load_mid (by kernel_rfl) _ _ rfl (w.heap.size + 4) 0 rfl (ints (lowOf D n)) _ (fun _ hw => hw.2.1) hu rfl hiLw) (by assumption) ?_
  simp only [Act.put, List.setIfInBounds_toArray, List.set_cons_zero, List.set_cons_succ, List.toList_toArray]
  refine wpAnyH_ready (rs := [2]) (by kernel_rfl) (by simp) ?_
  refine AllReadyH.cons (o := _) (by simp only [List.getElem?_toArray, List.getElem?_cons_succ, List.getElem?_cons_zero]; exact rfl) (fun K hK => ?_) AllReadyH.nil
  rw [if_pos (by rfl)]
  go_simp
  go_at_call 50
  refine (sqdiag_any n (by omega) _).mono ?_
  rintro e w5 ⟨rfl, hbd⟩
  refine hK.out _ _ ⟨range_below hHeld.1 hbd, range_below hHeld.2.1 hbd, there_below hHeld.2.2.1 hbd, there_below hHeld.2.2.2.1 hbd, hHeld.2.2.2.2.trans (hbd.mono hHeld.2.2.2.2.size)⟩ (fun hH2 => ?_)
  clear hK K
  try simp only [Act.put, List.setIfInBounds_toArray, List.set_cons_zero, List.set_cons_succ, List.toList_toArray]
  refine wpAnyH_ready (rs := [3]) (by kernel_rfl) (by simp) ?_
  refine AllReadyH.cons (o := _) (by simp only [List.getElem?_toArray, List.getElem?_cons_succ, List.getElem?_cons_zero]; exact rfl) (fun K hK => ?_) AllReadyH.nil
  rw [if_pos (by rfl)]
  go_simp
  go_at_call 53
  refine (minus_any (rowsOf D n) (pad (sqs n)) HRL.out HPS.out HBR.out _).mono ?_
  rintro e w6 ⟨rfl, hbd⟩
  refine hK.out _ _ ⟨range_below hH2.1 hbd, range_below hH2.2.1 hbd, there_below hH2.2.2.1 hbd, there_below hH2.2.2.2.1 hbd, hH2.2.2.2.2.trans (hbd.mono hH2.2.2.2.2.size)⟩ (fun hH3 => ?_)
  clear hK K
  try simp only [Act.put, List.setIfInBounds_toArray, List.set_cons_zero, List.set_cons_succ, List.toList_toArray]
  refine wpAnyH_ready (rs := [5]) (by kernel_rfl) (by simp) ?_
  refine AllReadyH.cons (o := _) (by simp only [List.getElem?_toArray, List.getElem?_cons_succ, List.getElem?_cons_zero]; exact rfl) (fun K hK => ?_) AllReadyH.nil
  rw [if_pos (by rfl)]
  refine wp_store_mid _ _ _ rfl (w.heap.size + 1) 0 (ints (amid (rowsOf D n) (neg (pad (sqs n))) 16)).toArray rfl rfl (by rw [hzA]; exact hH3.2.2.1) (by rw [hzA]; exact T_info35) (all_oneCell_toArray h1A) ?_
  simp only [Act.put, List.setIfInBounds_toArray, List.set_cons_zero, List.set_cons_succ, List.toList_toArray]
  refine hK.out _ _ ⟨World.rangeAt_setCells_apart hH3.1 _ _ _ (.inl (by omega)), World.rangeAt_setCells_apart hH3.2.1 _ _ _ (.inl (by omega)), World.there_setCells hH3.2.2.1 _ _ _, World.there_setCells hH3.2.2.2.1 _ _ _, below_setCells (Nat.le_succ _) _ _ _ _ hH3.2.2.2.2⟩ (fun hT => ?_)
  clear hK K
  try simp only [Act.put, List.setIfInBounds_toArray, List.set_cons_zero, List.set_cons_succ, List.toList_toArray]
  refine wpAnyH_ready (rs := [6]) (by kernel_rfl) (by simp) ?_
  refine AllReadyH.cons (o := _) (by simp only [List.getElem?_toArray, List.getElem?_cons_succ, List.getElem?_cons_zero]; exact rfl) (fun K hK => ?_) AllReadyH.nil
  rw [if_pos (by rfl)]
  refine wp_store_mid _ _ _ rfl (w.heap.size + 2) 0 (ints (lowOf D n)).toArray rfl rfl (by rw [hzLw]; exact hT.2.2.2.1) (by rw [hzLw]; exact T_info35) (all_oneCell_toArray h1Lw) ?_
  simp only [Act.put, List.setIfInBounds_toArray, List.set_cons_zero, List.set_cons_succ, List.toList_toArray]
  refine hK.out _ _ ⟨World.rangeAt_setCells_apart hT.1 _ _ _ (.inl (by omega)), World.rangeAt_setCells_apart hT.2.1 _ _ _ (.inl (by omega)), World.there_setCells hT.2.2.1 _ _ _, World.there_setCells hT.2.2.2.1 _ _ _, below_setCells (by omega) _ _ _ _ hT.2.2.2.2⟩ (fun hU => ?_)
  clear hK K
  try simp only [Act.put, List.setIfInBounds_toArray, List.set_cons_zero, List.set_cons_succ, List.toList_toArray]
  refine wpAnyH_done (by kernel_rfl) ?_ _
  try simp only [Act.put, List.setIfInBounds_toArray, List.set_cons_zero, List.set_cons_succ]
  have rA := World.rangeAt_setCells_apart (World.rangeAt_setCells_same _ (w.heap.size + 1) 0 (ints (amid (rowsOf D n) (neg (pad (sqs n))) 16)) (by rw [hlA]; exact hH3.2.2.1)) (w.heap.size + 2) 0 (ints (lowOf D n)) (.inl (by omega))
  have rB := World.rangeAt_setCells_same _ (w.heap.size + 2) 0 (ints (lowOf D n)) (by rw [hlLw]; exact hT.2.2.2.1)
  go_wp2_with fail
  refine bodyPost_ret (results_2cells rfl _ _ (w.heap.size + 1) (w.heap.size + 2) (ints (amid (rowsOf D n) (neg (pad (sqs n))) 16)) (ints (lowOf D n)) _ rfl rfl rA rB hu rfl hiA hiLw) rfl ?_
  exact ⟨rfl, hU.2.2.2.2⟩
end Go.Proofs.Ytldbjnnolebfbaa
