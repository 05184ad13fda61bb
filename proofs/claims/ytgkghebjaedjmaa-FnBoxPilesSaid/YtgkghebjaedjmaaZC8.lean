/-
  Walks of the program: all piles that begin with some rows. Walks of the program: all piles with a sum. Walks of the model: rows copied. Walks of the model: piles: valid, summed, turned, in layers, even. Walks: the laws' own helpers on lists of lists: compared (eqIntSS, equalLists). Walks: all parts listed (the model's list). Walks: all parts listed (the model's list), whole. Walks of the program: the parts with a sum of which something holds, where parts are listed. Walks of the program: all parts with a sum. Walks of the model: all parts with a sum.
-/
import Derived.Test.YtgkghebjaedjmaaZC1
import Derived.Test.YtgkghebjaedjmaaZC2
import Derived.Test.YtgkghebjaedjmaaZC3
import Derived.Test.YtgkghebjaedjmaaZC4
import Derived.Test.YtgkghebjaedjmaaZC5
import Derived.Test.YtgkghebjaedjmaaZC6
import Derived.Test.YtgkghebjaedjmaaZC7
import Derived.Deep.QuietTactic
import Derived.BigQuiet
import Derived.Deep.RegionLaw
import Derived.Deep.RegionHeld3
namespace Go.Proofs.Ytgkghebjaedjmaa
open Go.RowKit Go.Shelf NP
set_option maxRecDepth 8000
set_option linter.unusedVariables false
set_option linter.unusedSimpArgs false
attribute [local go_sem] Oper.semAt_some
theorem T_pilI : (Try.prog.info? 43).map (fun i => (i.zero, i.size, i.bytes)) = some (some (.slice none 0 0), 1, 24) := by kernel_rfl
theorem wpListIn_store_at {F : Fence} {n : Nat} {P : Program} {ops : Array Oper} {rest : List Oper} {oo : Oper} {a : Act} {w : World} {Q : Exit → Act → World → Prop} (hgd : oo.guard = none) (ty : TypeId) (x v : Operand) (ho : oo.op = .store ty x v)
    (g o : Nat) (hx : a.eval x = .pointer (some ⟨g, o, none⟩)) (vs : Array Value) (hv : a.eval v = .agg vs) (t : TypeId) (cs : Array Value) (hg : Blk w g t cs)
    (hi : (P.info? ty).map (·.size) = some vs.size) (hs : o + vs.size ≤ cs.size) (h1 : ∀ v ∈ vs.toList, v.oneCell' = true)
    (h : wpListIn F n P ops Q rest (a.put oo.dst undef) (w.setRow g (cs.toList.take o ++ vs.toList ++ cs.toList.drop (o + vs.size)).toArray)) : wpListIn F n P ops Q (oo :: rest) a w :=
  wpListIn_plain hgd fun K hK => by
    unfold Oper.wpIn
    refine ⟨by simp [Oper.about, ho], ?_⟩
    rw [Oper.semAt_plain F _ _ (by rw [ho]; intro c hc; cases hc)]
    simp only [execOp, ho, hx, hv, Instr.storeAt, Instr.sureAddr, Sem.run_bind, Sem.run_pure, Result.andThen_ok, run_storeVar_at w g o t ty cs vs hg hi hs h1]
    exact hK _ _ h
set_option maxRecDepth 100000 in
set_option maxHeartbeats 4000000 in
theorem wpf_zero (f : Nat) (H : List (List Int)) (lo hi : Nat) (v : Value) (us : List (List Value)) (iv : List (Nat × Nat)) (X : List (List (List Int))) (w : World) (hH : vpl H = true) (hX : X.length ≤ 100000000) (h : OwnBag EP w lo hi 43 1 v us iv X) (hlo : lo ≤ w.heap.size) :
    Calls Try.prog 55 #[v, .agg (arr (gridR H).flatten), .int .i64 H.length, .int .i64 0] w fun e w' => ∃ v' us' iv', e = .returned v' ∧ OwnBag EP w' lo w'.heap.size 43 1 v' us' iv' (X ++ pq f H 0) ∧ w.grownBy w' v.ownBlock ∧ (∀ g, v'.ownBlock = some g → v.ownBlock = some g ∨ w.heap.size ≤ g) := by
  have hmx : Try.prog.follows .mixedOrders = true := by kernel_rfl
  obtain ⟨i22, hi22, hq0, hq1, hq2⟩ := info_parts T_pilI
  have hi256 : (Try.prog.info? 76).map (·.size) = some (arr (gridR H).flatten).size := by rw [arr_size, sq_len (gridR_sq hH)]; exact T_info256
  rw [pq_zero]
  obtain ⟨G, hG⟩ : ∃ G, G = arr (gridR H).flatten := ⟨_, rfl⟩
  have HPL := Lib.hid (fun w => plist_any H hH w)
  rw [← hG] at hi256 HPL ⊢
  obtain ⟨aV, cV, rfl⟩ := h.form
  obtain ⟨W1, hW1⟩ : ∃ W1, w.alloc (.cells #[.slice aV X.length cV] 38) = W1 := ⟨_, rfl⟩
  obtain ⟨W2, hW2⟩ : ∃ W2, W1.alloc (.cells G 76) = W2 := ⟨_, rfl⟩
  obtain ⟨W3, hW3⟩ : ∃ W3, W2.alloc (.cells #[.int .i64 H.length] 3) = W3 := ⟨_, rfl⟩
  obtain ⟨W4, hW4⟩ : ∃ W4, W3.alloc (.cells #[.int .i64 0] 3) = W4 := ⟨_, rfl⟩
  have b4 : Blk W4 w.heap.size 38 #[.slice aV X.length cV] := by rw [← hW4, ← hW3, ← hW2, ← hW1]; exact (((Blk.new w _ _).alloc _).alloc _).alloc _
  have b5 : Blk W4 W1.heap.size 76 G := by rw [← hW4, ← hW3, ← hW2]; exact ((Blk.new W1 _ _).alloc _).alloc _
  have b7 : W4.cell? ⟨W3.heap.size, 0, none⟩ = some (.int .i64 0) := by rw [← hW4, (Blk.new W3 3 #[.int .i64 0]).cell 0]; rfl
  have hB4 : Below w.heap.size w W4 := by rw [← hW4, ← hW3, ← hW2, ← hW1]; exact ((((Below.refl _ _).alloc (Nat.le_refl _) _).alloc (by simp) _).alloc (by simp; omega) _).alloc (by simp; omega) _
  have h4 := h.below ep_keep (hB4.mono h.le)
  have HH := Lib.hid h4
  have hbase := h.base
  have hle := h.le
  clear h h4 hG hH
  refine (callsIn_wide (n := 6)).1 ?_
  refine callsIn_of_wp Try.func55 rfl trivial ?_ rfl
  simp only [Try.ntmps55, List.size_toArray, List.length_cons, List.length_nil, Nat.reduceAdd, Nat.reduceSub, Array.replicate_succ, Array.replicate_zero, List.push_toArray, List.append_toArray, List.nil_append, List.cons_append]
  gi_wp2_with (first | (rw [hW1]) | (rw [hW2]) | (rw [hW3]) | (rw [hW4]))
  refine wpIn_region_any hmx ?_
  obtain ⟨y, hy⟩ : ∃ y, W4.drew = y := ⟨_, rfl⟩
  change wpAnyIn _ _ _ _ _ _ _ _ _ (World.drew _)
  rw [hy]
  have hky : Below W4.heap.size W4 y := by rw [← hy]; exact (Dr.n W4 1).below _
  have hBy : Blk y w.heap.size 38 #[.slice aV X.length cV] := b4.below hky b4.lt
  have hDy : Blk y W1.heap.size 76 G := b5.below hky b5.lt
  clear b4 b5 b7
  refine wpAnyIn_first [(0, .slice aV X.length cV), (1, .agg G)] (fun w' => Blk w' w.heap.size 38 #[.slice aV X.length cV] ∧ Blk w' W1.heap.size 76 G) _ _ _ rfl (by kernel_rfl) (by kernel_rfl) ⟨hBy, hDy⟩ #[true, true, false, false, false, false] (by kernel_rfl) 4 (by kernel_rfl) ?fix ?rest
  case fix =>
    simp only [putsL, Act.put, List.getElem?_toArray, List.getElem?_cons_succ, List.getElem?_cons_zero, Option.bind_some, Nat.reduceAdd, List.setIfInBounds_toArray, List.set_cons_zero, List.set_cons_succ, List.map_cons, List.map_nil, List.getElem_toArray, List.getElem_cons_succ, List.getElem_cons_zero]
    refine FixS.cons rfl rfl (fun wq hq => opIn_val (v := .slice aV X.length cV) (w' := wq) (by simp [Oper.about]) ?_ ⟨rfl, rfl⟩) ?_
    · have hc : wq.cell? ⟨w.heap.size, 0, none⟩ = some (.slice aV X.length cV) := by rw [hq.1.cell 0]; rfl
      go_simp
    refine FixS.cons rfl rfl (fun wq hq => opIn_loadv 76 (.tmp 5) rfl ⟨W1.heap.size, 0, none⟩ rfl (run_loadVar_row wq W1.heap.size 76 76 G (0, 0) _ hq.2 Try.underlying76 rfl hi256) ⟨rfl, rfl⟩) ?_
    exact FixS.nil
  case rest =>
    simp only [putsL, Act.put, List.getElem?_toArray, List.getElem?_cons_succ, List.getElem?_cons_zero, Option.bind_some, Nat.reduceAdd, List.setIfInBounds_toArray, List.set_cons_zero, List.set_cons_succ, List.map_cons, List.map_nil, List.getElem_toArray, List.getElem_cons_succ, List.getElem_cons_zero]
    refine wpAnyS_one 2 _ (by kernel_rfl) rfl rfl (fun K hK => ?_)
    go_simp
    refine ⟨trivial, ?_⟩
    gi_at_call 85
    refine (callsIn_wide.2 (HPL.out y)).mono ?_
    rintro e W5 ⟨a5, c5, vs5, rfl, h5, hb5⟩
    have hB5 := hBy.below hb5 hBy.lt
    have hD5 := hDy.below hb5 hDy.lt
    refine hK _ _ (fun _ => ⟨hB5, hD5⟩) ?_
    clear hK K
    simp only [putsL, Act.put, List.getElem?_toArray, List.getElem?_cons_succ, List.getElem?_cons_zero, Option.bind_some, Nat.reduceAdd, List.setIfInBounds_toArray, List.set_cons_zero, List.set_cons_succ, List.map_cons, List.map_nil, List.getElem_toArray, List.getElem_cons_succ, List.getElem_cons_zero]
    obtain ⟨W6, hW6⟩ : ∃ W6, W5.alloc (.cells #[.slice a5 H.length c5] 43) = W6 := ⟨_, rfl⟩
    refine wpAnyS_one 3 _ (by kernel_rfl) rfl rfl (fun K hK => ?_)
    refine opIn_val (v := .slice (some ⟨W5.heap.size, 0, none⟩) 1 1) (w' := W6) (by simp [Oper.about]) (by rw [← hW6]; go_simp) ?_
    have hB6 : Blk W6 w.heap.size 38 #[.slice aV X.length cV] := by rw [← hW6]; exact hB5.alloc _
    have hD6 : Blk W6 W1.heap.size 76 G := by rw [← hW6]; exact hD5.alloc _
    refine hK _ _ (fun _ => ⟨hB6, hD6⟩) ?_
    clear hK K
    simp only [putsL, Act.put, List.getElem?_toArray, List.getElem?_cons_succ, List.getElem?_cons_zero, Option.bind_some, Nat.reduceAdd, List.setIfInBounds_toArray, List.set_cons_zero, List.set_cons_succ, List.map_cons, List.map_nil, List.getElem_toArray, List.getElem_cons_succ, List.getElem_cons_zero]
    have hz4 := hB4.size
    have hyz := hky.size
    have hz5 := hb5.size
    have hbag6 : OwnBag EP W6 lo hi 43 1 (.slice aV X.length cV) us iv X := by
      rw [← hW6]
      exact ((HH.out.below ep_keep (hky.mono (by omega))).below ep_keep (hb5.mono (by omega))).alloc ep_keep _
    have hsing : OwnBag EP W6 y.heap.size (W5.heap.size + 1) 43 1 (.slice (some ⟨W5.heap.size, 0, none⟩) 1 1) [[.slice a5 H.length c5]] [(y.heap.size, W5.heap.size)] [H] := by
      rw [← hW6]
      exact OwnBag.single ep_keep (x := H) ⟨a5, c5, vs5, rfl, h5⟩ hz5 (Nat.le_refl _) rfl (ep_one _ _ _)
    have q2 : 0 < 1 := by decide
    have q3 : hi ≤ y.heap.size := by omega
    have q4 : lo ≤ y.heap.size := by omega
    have q5 : X.length ≤ 1000000000 := by omega
    have hw6 : lo ≤ W6.heap.size := by rw [← hW6, World.size_alloc]; omega
    obtain ⟨v', W7, hrun, hbag7, hg7, hat7⟩ := run_append_bag (P := Try.prog) ep_keep 38 38 i22 _ 24 Try.underlying38 hi22 hq0 hq1 hq2 rfl q2 hbag6 hsing q3 q4 q5 (by simp) (by decide) hw6
    refine wpAnyS_one 4 _ (by kernel_rfl) rfl rfl (fun K hK => ?_)
    refine opIn_append (.tmp 13) (.tmp 16) 38 rfl rfl rfl hrun ?_
    have hnB : some w.heap.size ≠ (Value.slice aV X.length cV).ownBlock := fun e => by have := hbag6.lt _ e.symm; omega
    have hz1 : w.heap.size < W1.heap.size := by rw [← hW1]; simp
    have hB7 : Blk W7 w.heap.size 38 #[.slice aV X.length cV] := hB6.grown hg7 hnB
    have hD7 : Blk W7 W1.heap.size 76 G := hD6.grown hg7 (fun e => by have := hbag6.lt _ e.symm; omega)
    refine hK _ _ (fun _ => ⟨hB7, hD7⟩) ?_
    clear hK K
    simp only [putsL, Act.put, List.getElem?_toArray, List.getElem?_cons_succ, List.getElem?_cons_zero, Option.bind_some, Nat.reduceAdd, List.setIfInBounds_toArray, List.set_cons_zero, List.set_cons_succ, List.map_cons, List.map_nil, List.getElem_toArray, List.getElem_cons_succ, List.getElem_cons_zero]
    refine wpAnyS_one 5 _ (by kernel_rfl) rfl rfl (fun K hK => ?_)
    refine opIn_val (v := v') (w' := W7) (by simp [Oper.about]) (by go_simp) ?_
    refine hK _ _ (fun h => absurd rfl h) ?_
    clear hK K
    simp only [putsL, Act.put, List.getElem?_toArray, List.getElem?_cons_succ, List.getElem?_cons_zero, Option.bind_some, Nat.reduceAdd, List.setIfInBounds_toArray, List.set_cons_zero, List.set_cons_succ, List.map_cons, List.map_nil, List.getElem_toArray, List.getElem_cons_succ, List.getElem_cons_zero]
    unfold wpAnyS
    obtain ⟨a8, c8, rfl⟩ := hbag7.form
    have hgw : w.grownBy W6 (Value.slice aV X.length cV).ownBlock := by
      rw [← hW6]
      exact gbAlloc (gbBelow (gbBelow (gbBelow (World.grownBy.refl w _) hB4) hky) hb5) _
    have hfin := gbN hgw hg7 (fun k hk => .inl hk)
    gi_wp2_with fail
    go_ret
    refine ⟨.slice a8 (X ++ [H]).length c8, _, _, rfl, hbag7, hfin, fun g hg => ?_⟩
    rcases hat7 with e | e
    · exact .inl (by rw [← e]; exact hg)
    · rw [e] at hg; injection hg with hg; subst hg; right; rw [← hW6, World.size_alloc]; omega
/-- what stands while the rows with a sum are gone over -/
def IP (w : World) (lo : Nat) (v0 : Value) (X : List (List (List Int))) (f : Nat) (H : List (List Int)) (n r : Nat) (S : Int) (b5 b6 b7 B9 : Nat) (Ds : List Nat) (pre : List (VLs S)) (W : World) : Prop :=
  (∃ v us iv R, Blk W w.heap.size 38 #[v] ∧ OwnBag EP W lo W.heap.size 43 1 v us iv (X ++ pqk f H n r ++ pqs (fun K => pq f K r) H (pre.map (·.1))) ∧ Blk W b5 76 (arr (List.flatten R)) ∧ Sq R ∧ (∀ P, R.set H.length (pad P) = (gridR H).set H.length (pad P)) ∧ (∀ g, v.ownBlock = some g → v0.ownBlock = some g ∨ w.heap.size ≤ g)) ∧
  Blk W b6 3 #[.int .i64 (H.length : Nat)] ∧ Blk W b7 3 #[.int .i64 (n : Nat)] ∧ Blk W B9 3 #[.int .i64 S] ∧ w.grownBy W v0.ownBlock ∧ (∀ D ∈ Ds, W.heap[D]? = some (.deferred (some [])))
section
variable {w : World} {lo : Nat} {v0 : Value} {X : List (List (List Int))} {f : Nat} {H : List (List Int)} {n r : Nat} {S : Int} {b5 b6 b7 B9 : Nat} {Ds : List Nat}
theorem ip_stay {pre : List (VLs S)} {W W' : World} (h : IP w lo v0 X f H n r S b5 b6 b7 B9 Ds pre W) (hs : W.heap.size ≤ W'.heap.size) (hk : ∀ (g : Nat) (cs : Array Value) (t : TypeId), t ≠ 60 → W.heap[g]? = some (.cells cs t (0, 0)) → W'.heap[g]? = W.heap[g]?) (hg : w.grownBy W' v0.ownBlock) (hd : ∀ D ∈ Ds, W.heap[D]? = some (.deferred (some [])) → W'.heap[D]? = some (.deferred (some []))) : IP w lo v0 X f H n r S b5 b6 b7 B9 Ds pre W' := by
  obtain ⟨⟨v, us, iv, R, h1, h2, h3, h4, h5, h6⟩, h7, h8, h9, _, h10⟩ := h
  exact ⟨⟨v, us, iv, R, (hk _ _ _ (by decide) h1).trans h1, (h2.stay ep_keep ⟨hs, fun g cs t ht _ _ hc => hk g cs t (fun e => by subst e; revert ht; decide) hc⟩ (by decide)).more, (hk _ _ _ (by decide) h3).trans h3, h4, h5, h6⟩, (hk _ _ _ (by decide) h7).trans h7, (hk _ _ _ (by decide) h8).trans h8, (hk _ _ _ (by decide) h9).trans h9, hg, fun D hD => hd D hD (h10 D hD)⟩
theorem ip_below {pre : List (VLs S)} {W W' : World} (h : IP w lo v0 X f H n r S b5 b6 b7 B9 Ds pre W) (hb : Below W.heap.size W W') : IP w lo v0 X f H n r S b5 b6 b7 B9 Ds pre W' :=
  ip_stay h hb.size (fun g cs t _ hc => hb.block g (Array.getElem?_eq_some_iff.1 hc).1) (gbBelow h.2.2.2.2.1 hb) (fun D _ hc => (hb.block D (Array.getElem?_eq_some_iff.1 hc).1).trans hc)
theorem ip_from (B : Nat) (hB : w.heap.size ≤ B) (hDs : ∀ D ∈ Ds, D < B) : OwnFrom B (IP w lo v0 X f H n r S b5 b6 b7 B9 Ds) := by
  rintro s W W' row h hg hr
  refine ip_stay h hg.size (fun g cs t _ hc => hg.block g (Array.getElem?_eq_some_iff.1 hc).1 (fun e => ?_)) (gbN h.2.2.2.2.1 hg (fun k e => .inr (Nat.le_trans hB (hr k e).1))) (fun D hD hc => (hg.block D (Array.getElem?_eq_some_iff.1 hc).1 (fun e => by have := (hr D e.symm).1; have := hDs D hD; omega)).trans hc)
  obtain ⟨_, o, ho, hc'⟩ := hr g e.symm
  rw [hc] at ho; injection ho with ho; subst ho; simp [Obj.isCells] at hc'
theorem ip_abt (B : Nat) (hB : w.heap.size ≤ B) : AbT B 60 (IP w lo v0 X f H n r S b5 b6 b7 B9 Ds) := by
  refine ⟨fun s W o h => ?_, fun s W k h => ?_, fun s W b i u cs fr h hb hc => ?_⟩
  · exact ip_stay h (by simp) (fun g cs t _ hc => Below.heap_alloc W o g (Array.getElem?_eq_some_iff.1 hc).1) (gbAlloc h.2.2.2.2.1 o) (fun D _ hc => (Below.heap_alloc W o D (Array.getElem?_eq_some_iff.1 hc).1).trans hc)
  · exact ip_stay h (Nat.le_refl _) (fun g cs t _ hc => rfl) (gbBelow h.2.2.2.2.1 ((Dr.n W k).below _)) (fun D _ hc => hc)
  · refine ip_stay h (by simp [World.setCell]) (fun g cs' t ht hg => Below.heap_setCell W ⟨b, i, none⟩ u g (fun e => ?_)) (gbNew h.2.2.2.2.1 (p := ⟨b, i, none⟩) (Nat.le_trans hB hb) u) (fun D _ hD => (Below.heap_setCell W ⟨b, i, none⟩ u D (fun e => ?_)).trans hD)
    · subst e
      rw [show W.heap[g]? = _ from hc] at hg; injection hg with hg; injection hg with _ hg _; exact ht hg.symm
    · subst e
      rw [show W.heap[D]? = _ from hc] at hD; injection hD with hD; cases hD
end
def badP (t : TypeId) : Bool := t == 38 || t == 43 || t == 76
theorem leaves_marks {F : Fence} {n : Nat} {P : Program} {fn : Func} {tmps : Array Value} {R : Ending → World → Prop} : ∀ (Ds : List Nat) (W : World), Ds.Nodup → (∀ D ∈ Ds, W.heap[D]? = some (.deferred (some []))) →
    (∀ W', W.heap.size ≤ W'.heap.size → (∀ g, g ∉ Ds → W'.heap[g]? = W.heap[g]?) → W'.os = W.os → W'.tape = W.tape → W'.output = W.output → LeavesIn F n P fn tmps R [] .returning W') →
    LeavesInM F n P fn tmps R (Ds.map fun D => { target := .collected D, args := #[] }) .returning W := by
  intro Ds
  induction Ds with
  | nil => intro W _ _ h; exact h W (Nat.le_refl _) (fun _ _ => rfl) rfl rfl rfl
  | cons D Ds ih =>
    intro W hnd hall h
    have hnd' := List.nodup_cons.1 hnd
    refine ⟨by simp, .inl ⟨_, _, rfl, run_takeDeferred (hall D (List.mem_cons_self ..)), ?_⟩⟩
    refine ih _ hnd'.2 (fun E hE => ?_) (fun W' hs hk h1 h2 h3 => h W' (by simpa [World.putObj] using hs) (fun g hg => ?_) h1 h2 h3)
    · have hne : E ≠ D := by rintro rfl; exact hnd'.1 hE
      exact (World.putObj_heap_other hne).trans (hall E (List.mem_cons_of_mem _ hE))
    · have h4 : g ≠ D := fun e => hg (by rw [e]; exact List.mem_cons_self ..)
      exact (hk g (fun hm => hg (List.mem_cons_of_mem _ hm))).trans (World.putObj_heap_other h4)
/-- the number that a pointer's cell holds -/
def cellAt (v : Value) (w : World) : Nat := match v with
  | .pointer (some p) => (intOf ((w.cell? p).getD undef)).toNat
  | _ => 0
theorem cellAt_blk {w : World} {B : Nat} {t : TypeId} {x : Int} (h : Blk w B t #[.int .i64 x]) : cellAt (.pointer (some ⟨B, 0, none⟩)) w = x.toNat := by
  show (intOf ((w.cell? ⟨B, 0, none⟩).getD undef)).toNat = _
  rw [h.cell 0]
  rfl
set_option maxRecDepth 100000 in
set_option maxHeartbeats 8000000 in
theorem wpf_any : ∀ (f : Nat) (H : List (List Int)) (n lo hi : Nat) (v : Value) (us : List (List Value)) (iv : List (Nat × Nat)) (X : List (List (List Int))) (w : World), n ≤ f → vpl H = true → sumLL H + (n : Int) ≤ 16 → H.length + n ≤ 6 → X.length + f * 10000000 ≤ 100000000 → OwnBag EP w lo hi 43 1 v us iv X → lo ≤ w.heap.size →
    Calls Try.prog 55 #[v, .agg (arr (gridR H).flatten), .int .i64 H.length, .int .i64 n] w fun e w' => ∃ v' us' iv', e = .returned v' ∧ OwnBag EP w' lo w'.heap.size 43 1 v' us' iv' (X ++ pq f H n) ∧ w.grownBy w' v.ownBlock ∧ (∀ g, v'.ownBlock = some g → v.ownBlock = some g ∨ w.heap.size ≤ g) := by
  intro f
  induction f with
  | zero =>
    intro H n lo hi v us iv X w hn hH hs hHn hX h hlo
    obtain rfl : n = 0 := by omega
    exact wpf_zero 0 H lo hi v us iv X w hH (by omega) h hlo
  | succ f ih =>
    intro H n lo hi v us iv X w hn hH hs hHn hX h hlo
    by_cases h0 : n = 0
    · subst h0
      exact wpf_zero (f + 1) H lo hi v us iv X w hH (by omega) h hlo
    have hmx : Try.prog.follows .mixedOrders = true := by kernel_rfl
    have hsq := gridR_sq hH
    have h256 : ∀ R, Sq R → (Try.prog.info? 76).map (·.size) = some (arr (List.flatten R)).size := fun R hR => by rw [arr_size, sq_len hR]; exact T_info256
    rw [pq_up H h0]
    have HIH := Lib.hid ih
    have HH := Lib.hid hH
    have HSQ := Lib.hid hsq
    have H256 := Lib.hid h256
    have hn0 : ((n : Int) == 0) = false := by simp; omega
    obtain ⟨aV, cV, rfl⟩ := h.form
    obtain ⟨v0, hv0⟩ : ∃ v0, v0 = Value.slice aV X.length cV := ⟨_, rfl⟩
    obtain ⟨G, hG⟩ : ∃ G, G = arr (gridR H).flatten := ⟨_, rfl⟩
    rw [← hG]
    obtain ⟨W1, hW1⟩ : ∃ W1, w.alloc (.cells #[.slice aV X.length cV] 38) = W1 := ⟨_, rfl⟩
    obtain ⟨W2, hW2⟩ : ∃ W2, W1.alloc (.cells G 76) = W2 := ⟨_, rfl⟩
    obtain ⟨W3, hW3⟩ : ∃ W3, W2.alloc (.cells #[.int .i64 H.length] 3) = W3 := ⟨_, rfl⟩
    obtain ⟨W4, hW4⟩ : ∃ W4, W3.alloc (.cells #[.int .i64 n] 3) = W4 := ⟨_, rfl⟩
    obtain ⟨W5, hW5⟩ : ∃ W5, W4.alloc (.cells #[.int .i64 n] 3) = W5 := ⟨_, rfl⟩
    have hz1 : w.heap.size < W1.heap.size := by rw [← hW1]; simp
    have hz2 : W1.heap.size < W2.heap.size := by rw [← hW2]; simp
    have hz3 : W2.heap.size < W3.heap.size := by rw [← hW3]; simp
    have hz4 : W3.heap.size < W4.heap.size := by rw [← hW4]; simp
    have b7c : W4.cell? ⟨W3.heap.size, 0, none⟩ = some (.int .i64 n) := by rw [← hW4, (Blk.new W3 3 #[.int .i64 n]).cell 0]; rfl
    have b4 : Blk W5 w.heap.size 38 #[v0] := by rw [hv0, ← hW5, ← hW4, ← hW3, ← hW2, ← hW1]; exact ((((Blk.new w _ _).alloc _).alloc _).alloc _).alloc _
    have b5 : Blk W5 W1.heap.size 76 G := by rw [← hW5, ← hW4, ← hW3, ← hW2]; exact (((Blk.new W1 _ _).alloc _).alloc _).alloc _
    have b6 : Blk W5 W2.heap.size 3 #[.int .i64 H.length] := by rw [← hW5, ← hW4, ← hW3]; exact ((Blk.new W2 _ _).alloc _).alloc _
    have b7 : Blk W5 W3.heap.size 3 #[.int .i64 n] := by rw [← hW5, ← hW4]; exact (Blk.new W3 _ _).alloc _
    have b9 : Blk W5 W4.heap.size 3 #[.int .i64 n] := by rw [← hW5]; exact Blk.new W4 _ _
    have hg5 : w.grownBy W5 v0.ownBlock := by rw [← hW5, ← hW4, ← hW3, ← hW2, ← hW1]; exact gbAlloc (gbAlloc (gbAlloc (gbAlloc (gbAlloc (World.grownBy.refl w _) _) _) _) _) _
    have hz5 : W4.heap.size < W5.heap.size := by rw [← hW5]; simp
    have hbg5 : OwnBag EP W5 lo W5.heap.size 43 1 v0 us iv X := by
      rw [hv0, ← hW5, ← hW4, ← hW3, ← hW2, ← hW1]
      exact (((((h.alloc ep_keep _).alloc ep_keep _).alloc ep_keep _).alloc ep_keep _).alloc ep_keep _).more
    have HI0 : Hid (IP w lo v0 X f H n 0 (((n - 0 : Nat) : Int)) W1.heap.size W2.heap.size W3.heap.size W4.heap.size [] [] W5) := Lib.hid ⟨⟨v0, us, iv, gridR H, b4, by simpa [pqk, pqs] using hbg5, hG ▸ b5, hsq, fun _ => rfl, fun g hg => .inl hg⟩, b6, b7, b9, hg5, fun D hD => by cases hD⟩
    have HG := Lib.hid hG
    have HV0 := Lib.hid hv0
    have hXb : X.length ≤ 90000000 - f * 10000000 := by omega
    clear ih hH hsq h256 h hbg5 hG hv0 b4 b5 b6 b7 b9 hg5
    refine (callsIn_wide (n := 6)).1 ?_
    refine callsIn_of_wp_marks Try.func55 rfl trivial ?_ rfl
    simp only [Try.ntmps55, List.size_toArray, List.length_cons, List.length_nil, Nat.reduceAdd, Nat.reduceSub, Array.replicate_succ, Array.replicate_zero, List.push_toArray, List.append_toArray, List.nil_append, List.cons_append]
    gi_wp2_with (first | (rw [hW1]) | (rw [hW2]) | (rw [hW3]) | (rw [hW4]) | (rw [hW5]))
    obtain ⟨b5, hb5⟩ : ∃ b, W1.heap.size = b := ⟨_, rfl⟩
    obtain ⟨b6, hb6⟩ : ∃ b, W2.heap.size = b := ⟨_, rfl⟩
    obtain ⟨b7, hb7⟩ : ∃ b, W3.heap.size = b := ⟨_, rfl⟩
    obtain ⟨b9, hb9⟩ : ∃ b, W4.heap.size = b := ⟨_, rfl⟩
    have HZ : Hid (w.heap.size < b5 ∧ b5 < b6 ∧ b6 < b7 ∧ b7 < b9) := Lib.hid (by omega)
    rw [hb5, hb6, hb7, hb9] at HI0
    rw [hb5, hb6, hb7, hb9]
    clear hW1 hW2 hW3 hW4 hW5 hb5 hb6 hb7 hb9 hz1 hz2 hz3 hz4 hz5 b7c
    refine wpIn_loop (fun a' wr => ∃ (u9 u10 u19 u20 u21 u22 u23 u24 u25 u26 u27 u28 u29 u30 u31 u32 u33 u34 u35 u36 u37 u38 u39 u40 u41 u42 u43 u44 u45 u46 u47 : Value) (ds : List Deferred), (∃ (r B9 : Nat) (Ds : List Nat), ds = Ds.map (fun D => { target := .collected D, args := #[] }) ∧ Ds.Nodup ∧ (∀ D ∈ Ds, w.heap.size ≤ D) ∧ r ≤ n ∧ w.heap.size ≤ B9 ∧ u9 = .pointer (some ⟨B9, 0, none⟩) ∧ IP w lo v0 X f H n r (((n - r : Nat) : Int)) b5 b6 b7 B9 Ds [] wr) ∧ a' = { tmps := #[.slice aV X.length cV, .agg G, .int .i64 H.length, .int .i64 n, .pointer (some ⟨w.heap.size, 0, none⟩), .pointer (some ⟨b5, 0, none⟩), .pointer (some ⟨b6, 0, none⟩), .pointer (some ⟨b7, 0, none⟩), .slice none 0 0, u9, u10, .int .i64 n, .bool false, undef, undef, undef, undef, undef, .int .i64 n, u19, u20, u21, u22, u23, u24, u25, u26, u27, u28, u29, u30, u31, u32, u33, u34, u35, u36, u37, u38, u39, u40, u41, u42, u43, u44, u45, u46, u47, undef], defers := ds }) (fun a' wr => cellAt (a'.tmps.getD 9 undef) wr) ?start ?round
    case start =>
      exact ⟨.pointer (some ⟨b9, 0, none⟩), undef, undef, undef, undef, undef, undef, undef, undef, undef, undef, undef, undef, undef, undef, undef, undef, undef, undef, undef, undef, undef, undef, undef, undef, undef, undef, undef, undef, undef, undef, [], ⟨0, b9, [], rfl, List.nodup_nil, (fun D hD => by simp at hD), Nat.zero_le _, by have := HZ.out; omega, rfl, HI0.out⟩, rfl⟩
    case round =>
      rintro a' wr ⟨u9, u10, u19, u20, u21, u22, u23, u24, u25, u26, u27, u28, u29, u30, u31, u32, u33, u34, u35, u36, u37, u38, u39, u40, u41, u42, u43, u44, u45, u46, u47, ds, ⟨r, B9, Ds, rfl, hnd, hDw, hr, hB9, rfl, hIP⟩, rfl⟩
      clear HI0
      have hZ := HZ.out
      by_cases hlt : r < n
      · obtain ⟨k, hk⟩ : ∃ k, n - r = k := ⟨_, rfl⟩
        have hk1 : 1 ≤ k := by omega
        rw [hk] at hIP
        have HIP := Lib.hid hIP
        have hc9 : wr.cell? ⟨B9, 0, none⟩ = some (.int .i64 k) := by rw [hIP.2.2.2.1.cell 0]; rfl
        have hge : decide ((1 : Int) ≤ (k : Int)) = true := decide_eq_true (by omega)
        have hge' : decide (1 ≤ k) = true := decide_eq_true hk1
        have hzw := hIP.2.2.2.2.1.size
        have HDl : Hid (∀ D ∈ Ds, D < wr.heap.size) := Lib.hid (fun D hD => (Array.getElem?_eq_some_iff.1 (hIP.2.2.2.2.2 D hD)).1)
        clear hIP
        gi_wp2_with ((refine ⟨trivial, ?_⟩; gi_at_call 41; refine (dwith_in Fence.wide _ trivial rfl _ _).mono ?_; rintro e w' ⟨rfl, rfl⟩))
        have hsz : wr.heap.size < (wr.alloc (.cells #[.int .i64 k] 3)).heap.size := by simp
        have hbn : (wr.alloc (.cells #[.int .i64 k] 3)).cell? ⟨wr.heap.size, 0, none⟩ = some (.int .i64 k) := by rw [(Blk.new wr 3 #[.int .i64 k]).cell 0]; rfl
        have HI1 := Lib.hid (ip_below HIP.out ((Below.refl _ wr).alloc (Nat.le_refl _) (.cells #[.int .i64 k] 3)))
        obtain ⟨W0, hW0⟩ : ∃ W0, wr.alloc (.cells #[.int .i64 k] 3) = W0 := ⟨_, rfl⟩
        rw [hW0] at hsz hbn HI1 ⊢
        clear hW0 hc9 hge hge'
        have hn6 : n ≤ 6 := by omega
        have HRK : Hid (n = r + k) := Lib.hid (by omega)
        have HKR := Lib.hid hk
        have hk6 : k ≤ 6 := by omega
        clear hk
        refine wpIn_range_T 60 rfl (by omega) (gf := 72) (lb := #[.pointer (some ⟨wr.heap.size, 0, none⟩)]) rfl trivial (enters_of Try.func72 (by kernel_rfl) rfl)
          (dwithS_seq Fence.wide rfl trivial trivial rfl (6 - 1) k wr.heap.size (by omega) W0 hsz hbn) (Below.refl _ _) (fun _ => rfl)
          (IP w lo v0 X f H n r (k : Int) b5 b6 b7 B9 Ds) (fun _ _ _ => False) (ip_from _ (by omega) (fun D hD => by have := HDl.out D hD; omega)) (fun _ _ _ _ _ h _ _ => h) (ip_abt _ (by omega)) (fun _ => ⟨fun _ _ _ h => h, fun _ _ _ h => h, fun _ _ _ _ _ _ _ h _ _ => h⟩) HI1.out
          (fun x a' W => ∃ Bx, w.heap.size ≤ Bx ∧ Blk W Bx 60 (arr (pad x.1)) ∧ a' = { tmps := #[.slice aV X.length cV, .agg G, .int .i64 H.length, .int .i64 n, .pointer (some ⟨w.heap.size, 0, none⟩), .pointer (some ⟨b5, 0, none⟩), .pointer (some ⟨b6, 0, none⟩), .pointer (some ⟨b7, 0, none⟩), .slice none 0 0, .pointer (some ⟨B9, 0, none⟩), .pointer (some ⟨Bx, 0, none⟩), .int .i64 n, .bool false, undef, undef, undef, undef, undef, .int .i64 n, .int .i64 k, .bool true, u21, u22, .int .i64 k, .func (.func 72) #[] #[.pointer (some ⟨wr.heap.size, 0, none⟩)], .agg (arr (pad x.1)), u26, u27, u28, u29, u30, u31, u32, u33, u34, u35, u36, u37, u38, u39, u40, u41, u42, u43, u44, u45, u46, u47, undef], defers := [] }) ?hax ?assign ?body ?done ?stop
        case hax =>
          rintro a' s W W' row ⟨Bx, hBx, hb, rfl⟩ hg hr
          refine ⟨Bx, hBx, hb.grown hg (fun e => ?_), rfl⟩
          obtain ⟨_, o, ho, hc⟩ := hr Bx e.symm
          rw [show W.heap[Bx]? = _ from hb] at ho; injection ho with ho; subst ho; simp [Obj.isCells] at hc
        case assign =>
          intro l pre x W K hi hK
          have hlen : x.1.length ≤ 16 := (valid_bd x.2.1).2.2.2
          have hi16 : (Try.prog.info? 60).map (·.size) = some (arr (pad x.1)).size := by rw [arr_size, pad_len hlen]; exact T_info35
          have hszx : (arr (pad x.1)).size = (arr (List.replicate 16 0)).size := by rw [arr_size, arr_size, pad_len hlen]; rfl
          have hbz := Blk.new W 60 (arr (List.replicate 16 0))
          have hbw : Below W.heap.size W ((W.alloc (.cells (arr (List.replicate 16 0)) 60)).setRow W.heap.size (arr (pad x.1))) := below_setRow' ((Below.refl _ _).alloc (Nat.le_refl _) _) (Nat.le_refl _) _
          have hlt2 := hi.2.2.2.2.1.size
          gi_wp2_with (refine wpListIn_store_row rfl 60 (.tmp 10) (.tmp 25) rfl W.heap.size (arr (pad x.1)) rfl rfl (run_storeVar_row _ W.heap.size 60 60 _ _ hbz hi16 hszx (arr_one _)) ?_)
          exact hK _ _ (ko_below hbw) (KpT.below hbw) (ip_below hi hbw) ⟨W.heap.size, by omega, hbz.row, rfl⟩
        case body =>
          rintro l pre x a' W hIW ⟨Bx, hBx, hbx, rfl⟩ hlen
          obtain ⟨⟨v, us', iv', R, g1, g2, g3, g4, g5, g6⟩, g7, g8, g9, g10, g11⟩ := hIW
          obtain ⟨P, hP, hPs⟩ := x
          have hb := valid_bd hP
          have hPne : P ≠ [] := fun e => by subst e; simp [sumL] at hPs; omega
          have hi16 : (Try.prog.info? 60).map (·.size) = some (arr (pad P)).size := by rw [arr_size, pad_len hb.2.2.2]; exact T_info35
          have hNQ := allQ_len (show k ≤ 16 by omega)
          have hHl : H.length ≤ 5 := by omega
          have HFV : Hid (fitP H P = true → vpl (H ++ [P]) = true) := Lib.hid (fun hf => by rw [fit_vpl HH.out hP hPne (by rw [hPs]; have := HRK.out; omega), hf])
          have hsn := sumLL_snoc H P
          rw [hPs] at hsn
          have hs2 : sumLL (H ++ [P]) + (r : Int) ≤ 16 := by rw [hsn]; have := HRK.out; omega
          have hl2 : (H ++ [P]).length + r ≤ 6 := by rw [List.length_append, List.length_singleton]; have := HRK.out; omega
          have hXl : (X ++ pqk f H n r ++ pqs (fun K => pq f K r) H (pre.map (·.1))).length + f * 10000000 ≤ 100000000 := by
            have e1 := pqk_few f H hn6 hr
            have e2 := pqs_few f H (show r ≤ 6 by omega) (pre.map (·.1))
            rw [List.length_map] at e2
            rw [List.length_append, List.length_append]
            have e3 : pre.length * 729 ≤ 1000 * 729 := Nat.mul_le_mul_right _ (by omega)
            omega
          have hrb : R.length = 16 := g4.1
          have hpp := pad_len hb.2.2.2
          have HPQ : Hid (pqs (fun K => pq f K r) H ((pre ++ [(⟨P, hP, hPs⟩ : VLs (k : Int))]).map (·.1)) = pqs (fun K => pq f K r) H (pre.map (·.1)) ++ if fitP H P then pq f (H ++ [P]) r else []) := Lib.hid (by rw [List.map_append, List.map_cons, List.map_nil, pqs_snoc])
          have hstore := arr_flat_store g4.2 (i := H.length) (by omega) hpp
          rw [g5, gridR_snoc P (by omega), Nat.mul_comm 16] at hstore
          have HSTO := Lib.hid hstore
          have HSQP : Hid (fitP H P = true → Sq (gridR (H ++ [P]))) := Lib.hid (fun hf => gridR_sq (HFV.out hf))
          have hfit : H.length * 16 + (arr (pad P)).size ≤ (arr (List.flatten R)).size := by rw [arr_size, arr_size, sq_len g4, hpp]; omega
          have hi256 := H256.out R g4
          have hih16 : (H.length : Int) < 16 := by omega
          have HG5 := Lib.hid g5
          have HG6 := Lib.hid g6
          have hgw := g10.size
          have hb5w : w.heap.size < b5 := hZ.1
          have hb5l := g3.lt
          have hBxl := hbx.lt
          clear hsn hstore
          by_cases hi0 : H.length = 0
          · have hfp : fitP H P = true := by unfold fitP; rw [decide_eq_true hi0]; rfl
            have hz0 : ((H.length : Int) == 0) = true := by rw [hi0]; rfl
            clear hi0 g5
            gi_wp2_with fail
            refine wpIn_region_any hmx ?_
            obtain ⟨y, hy⟩ : ∃ y, W.drew = y := ⟨_, rfl⟩
            change wpAnyIn _ _ _ _ _ _ _ _ _ (World.drew _)
            rw [hy]
            have hky : Below W.heap.size W y := by rw [← hy]; exact (Dr.n W 1).below _
            clear hy
            have hBy : Blk y b6 3 #[.int .i64 H.length] := g7.below hky g7.lt
            refine wpAnyIn_first [(0, .int .i64 H.length), (1, .bool true), (2, .bool true), (3, undef), (4, undef), (5, undef), (6, undef), (7, undef), (8, undef)] (fun w' => Blk w' b6 3 #[.int .i64 H.length]) _ _ _ rfl (by kernel_rfl) (by kernel_rfl) hBy #[true, true, true, true, true, true, true, true, true, false] (by kernel_rfl) 1 (by kernel_rfl) ?fix ?rest
            case fix =>
              simp only [putsL, Act.put, List.getElem?_toArray, List.getElem?_cons_succ, List.getElem?_cons_zero, Option.bind_some, Nat.reduceAdd, List.setIfInBounds_toArray, List.set_cons_zero, List.set_cons_succ, List.map_cons, List.map_nil, List.getElem_toArray, List.getElem_cons_succ, List.getElem_cons_zero]
              refine FixS.cons rfl rfl (fun wq hq => opIn_val (w' := wq) (by simp [Oper.about]) ?_ ⟨rfl, rfl⟩) ?_
              · have hc : wq.cell? ⟨b6, 0, none⟩ = some (.int .i64 H.length) := by rw [hq.cell 0]; rfl
                go_simp
              refine FixS.cons rfl rfl (fun wq hq => opIn_val (w' := wq) (by simp [Oper.about]) (by go_simp) ⟨rfl, rfl⟩) ?_
              refine FixS.cons rfl rfl (fun wq hq => opIn_val (w' := wq) (by simp [Oper.about]) (by go_simp) ⟨rfl, rfl⟩) ?_
              refine FixS.skip rfl rfl (fun wq hq => ⟨fun f hf => trivial, rfl⟩) ?_
              refine FixS.skip rfl rfl (fun wq hq => ⟨fun f hf => trivial, rfl⟩) ?_
              refine FixS.skip rfl rfl (fun wq hq => ⟨fun f hf => trivial, rfl⟩) ?_
              refine FixS.skip rfl rfl (fun wq hq => ⟨fun f hf => trivial, rfl⟩) ?_
              refine FixS.skip rfl rfl (fun wq hq => ⟨fun f hf => trivial, rfl⟩) ?_
              refine FixS.skip rfl rfl (fun wq hq => ⟨fun f hf => trivial, rfl⟩) ?_
              exact FixS.nil
            simp only [putsL, Act.put, List.getElem?_toArray, List.getElem?_cons_succ, List.getElem?_cons_zero, Option.bind_some, Nat.reduceAdd, List.setIfInBounds_toArray, List.set_cons_zero, List.set_cons_succ, List.map_cons, List.map_nil, List.getElem_toArray, List.getElem_cons_succ, List.getElem_cons_zero]
            refine wpAnyS_one 9 _ (by kernel_rfl) rfl rfl (fun K hK => ?_)
            refine opIn_val (v := .bool true) (w' := y) (by simp [Oper.about]) (by go_simp) ?_
            refine hK _ _ (fun h => absurd rfl h) ?_
            clear hK K
            simp only [putsL, Act.put, List.getElem?_toArray, List.getElem?_cons_succ, List.getElem?_cons_zero, Option.bind_some, Nat.reduceAdd, List.setIfInBounds_toArray, List.set_cons_zero, List.set_cons_succ, List.map_cons, List.map_nil, List.getElem_toArray, List.getElem_cons_succ, List.getElem_cons_zero]
            unfold wpAnyS
            obtain ⟨W8, rfl⟩ : ∃ W8 : World, W8 = y := ⟨_, rfl⟩
            -- the row fits: it is laid, and all that may stand on it
            have hB8 := hky
            have hz8 := hB8.size
            have c4 : W8.cell? ⟨w.heap.size, 0, none⟩ = some v := by rw [(g1.below hB8 g1.lt).cell 0]; rfl
            have k5 := g3.below hB8 g3.lt
            have k6 := g7.below hB8 g7.lt
            have k7 := g8.below hB8 g8.lt
            have k9 := g9.below hB8 g9.lt
            have k4 := g1.below hB8 g1.lt
            have kx := hbx.below hB8 hbx.lt
            have hsqp := HSQP.out hfp
            have hr5 := k5.row (vs := arr (List.flatten (gridR (H ++ [P]))))
            have h256p := H256.out _ hsqp
            have ne56 : b5 ≠ b6 := by omega
            have ne57 : b5 ≠ b7 := by omega
            have ne54 : b5 ≠ w.heap.size := by omega
            have ne59 : B9 ≠ b5 := fun e => by
              subst e
              have k9' : W8.heap[B9]? = _ := k9
              rw [show W8.heap[B9]? = _ from k5] at k9'
              have e2 := Option.some.inj k9'
              injection e2 with _ e2 _
              exact absurd e2 (by decide)
            have hb8 : Below b5 W8 (W8.setRow b5 (arr (List.flatten (gridR (H ++ [P]))))) := below_setRow' (Below.refl _ _) (Nat.le_refl _) _
            have r4 : Blk (W8.setRow b5 (arr (List.flatten (gridR (H ++ [P]))))) w.heap.size 38 #[v] := k4.rowOff ne54.symm
            have r6 : Blk (W8.setRow b5 (arr (List.flatten (gridR (H ++ [P]))))) b6 3 #[.int .i64 H.length] := k6.rowOff ne56.symm
            have r7 : Blk (W8.setRow b5 (arr (List.flatten (gridR (H ++ [P]))))) b7 3 #[.int .i64 n] := k7.rowOff ne57.symm
            have r9 : Blk (W8.setRow b5 (arr (List.flatten (gridR (H ++ [P]))))) B9 3 #[.int .i64 k] := k9.rowOff ne59
            have c6 : W8.cell? ⟨b6, 0, none⟩ = some (.int .i64 H.length) := by rw [k6.cell 0]; rfl
            obtain ⟨W9, hW9⟩ : ∃ W9, W8.setRow b5 (arr (List.flatten (gridR (H ++ [P])))) = W9 := ⟨_, rfl⟩
            rw [hW9] at hr5 hb8 r4 r6 r7 r9
            have hz9 : W8.heap.size = W9.heap.size := by rw [← hW9]; simp [World.setRow]
            have HZ9 : Hid (W8.heap.size ≤ W9.heap.size) := Lib.hid (by omega)
            clear hz9
            have d4 : W9.cell? ⟨w.heap.size, 0, none⟩ = some v := by rw [r4.cell 0]; rfl
            have d6 : W9.cell? ⟨b6, 0, none⟩ = some (.int .i64 H.length) := by rw [r6.cell 0]; rfl
            have d7 : W9.cell? ⟨b7, 0, none⟩ = some (.int .i64 n) := by rw [r7.cell 0]; rfl
            have d9 : W9.cell? ⟨B9, 0, none⟩ = some (.int .i64 k) := by rw [r9.cell 0]; rfl
            have hw1 : IntKind.i64.wrap ((H.length : Int) + 1) = (((H ++ [P]).length : Nat) : Int) := by rw [List.length_append, List.length_singleton]; push_cast; exact IntWalk.i64_in _ (by omega)
            have hw2 : IntKind.i64.wrap ((n : Int) - (k : Int)) = (r : Int) := by rw [show (n : Int) - (k : Int) = (r : Int) by have := HRK.out; omega]; exact IntWalk.i64_in _ (by omega)
            have hpl9 : OwnBag EP W9 lo W.heap.size 43 1 v us' iv' (X ++ pqk f H n r ++ pqs (fun K => pq f K r) H (pre.map (·.1))) := by
              rw [← hW9]
              exact (g2.below ep_keep hB8).stay ep_keep ⟨by simp [World.setRow], fun g cs t ht _ _ hc => setRow_other _ _ _ _ (fun e => by
                subst e
                rw [show W8.heap[g]? = _ from k5] at hc; injection hc with hc; injection hc with _ hc _
                subst hc; revert ht; decide)⟩ (by decide)
            have hgb9 : w.grownBy W9 v0.ownBlock := by rw [← hW9]; exact gbRow (gbBelow g10 hB8) (by omega) _
            have HK9 : Hid (∀ (g : Nat), g ≠ b5 → W9.heap[g]? = W8.heap[g]?) := Lib.hid (fun g hg => by rw [← hW9]; exact setRow_other _ _ _ _ hg)
            have hwl : lo ≤ W9.heap.size := by have := HZ9.out; omega
            have HCALL := Lib.hid (HIH.out (H ++ [P]) r lo W.heap.size v us' iv' _ W9 (by have := HRK.out; omega) (HFV.out hfp) hs2 hl2 hXl hpl9 hwl)
            have HPL9 := Lib.hid hpl9
            obtain ⟨aL, cL, hvL⟩ := hpl9.form
            have HVL := Lib.hid hvL
            have HNW : Hid (((H ++ [P]).length : Nat) = H.length + 1) := Lib.hid (by simp)
            obtain ⟨GP, hGP⟩ : ∃ GP, arr (List.flatten (gridR (H ++ [P]))) = GP := ⟨_, rfl⟩
            obtain ⟨nH, hnH⟩ : ∃ nH : Nat, (H ++ [P]).length = nH := ⟨_, rfl⟩
            obtain ⟨XX, hXX⟩ : ∃ XX, X ++ pqk f H n r ++ pqs (fun K => pq f K r) H (pre.map (·.1)) = XX := ⟨_, rfl⟩
            rw [hGP] at hr5 h256p HCALL
            rw [hXX] at HCALL HPL9
            obtain ⟨XT, hXT⟩ : ∃ XT, XX ++ pq f (H ++ [P]) r = XT := ⟨_, rfl⟩
            rw [hXT] at HCALL
            have HXX := Lib.hid hXX
            have HXT := Lib.hid hXT
            clear hXX hXT
            rw [hnH] at hw1 HCALL
            have HSW : Hid (W8.setRow b5 ((arr (List.flatten R)).toList.take (H.length * 16) ++ (arr (pad P)).toList ++ (arr (List.flatten R)).toList.drop (H.length * 16 + (arr (pad P)).size)).toArray = W9) := Lib.hid (by rw [HSTO.out]; exact hW9)
            have HGP : Hid (arr (List.flatten (gridR (H ++ [P]))) = GP) := Lib.hid hGP
            clear hpl9 hvL hW9 hsqp hGP hnH hXl hl2 hs2 hz0
            gi_wp2_with (first
              | (refine wpListIn_load_row rfl 60 (.tmp 10) rfl Bx rfl 60 (arr (pad P)) (0, 0) _ kx Try.underlying60 rfl hi16 ?_)
              | (refine wpListIn_store_at rfl 60 (.tmp 38) (.tmp 37) rfl b5 (H.length * 16) rfl (arr (pad P)) rfl 76 (arr (List.flatten R)) k5 hi16 hfit (arr_one _) ?_; rw [HSW.out])
              | (refine wpListIn_load_row rfl 76 (.tmp 5) rfl b5 rfl 76 GP (0, 0) _ hr5 Try.underlying76 rfl h256p ?_)
              | (refine ⟨trivial, ?_⟩; gi_at_call 55; refine (CallsIn.inRound l (callsIn_wide.2 HCALL.out)).mono ?_; rintro e W10 ⟨v', us'', iv'', rfl, hbag10, hg10, hv10⟩; (have hne10 : ∀ (t : TypeId), t ≠ 43 → ∀ (g : Nat) (cs : Array Value), Blk W9 g t cs → some g ≠ v.ownBlock := (fun t ht g cs hc e => by obtain ⟨cs', hc'⟩ := HPL9.out.cells g e.symm; rw [show W9.heap[g]? = _ from hc] at hc'; injection hc' with hc'; injection hc' with _ hc' _; exact ht hc')); (have r10 := r4.grown hg10 (hne10 _ (by decide) _ _ r4)); (obtain ⟨a10, c10, hv'⟩ := hbag10.form); (subst hv'); (have e10 : W10.cell? ⟨w.heap.size, 0, none⟩ = some v := by rw [r10.cell 0]; rfl); (have f10 := r10.free 0)))
            have kx1 : KpX badP W W9 := (KpX.below hB8).trans (by rw [← HSW.out]; exact KpX.setRow (show W8.heap[b5]? = _ from k5) (by decide))
            have kx2 : KpX badP W9 W10 := KpX.grown hg10 (fun g hg => by
              obtain ⟨cs, hc⟩ := HPL9.out.cells g hg
              exact ⟨cs, _, _, hc, by decide⟩)
            have kx := (kx1.trans kx2).trans (KpX.set (p := ⟨w.heap.size, 0, none⟩) (u := .slice a10 XT.length c10) (show W10.heap[w.heap.size]? = _ from r10) (by decide))
            refine ⟨kx.others, kx.kpT (by decide), ⟨_, us'', iv'', gridR (H ++ [P]), r10.set 0 _, ?_, ?_, HSQP.out hfp, fun Q => ?_, fun g hg => ?_⟩, ?_, ?_, ?_, ?_, fun D hD => kx.others.same _ _ (g11 D hD) rfl⟩
            · have e := (hbag10.stay ep_keep (w' := W10.setCell ⟨w.heap.size, 0, none⟩ (.slice a10 XT.length c10)) ⟨by simp [World.setCell], fun g cs t ht _ _ hc => Below.heap_setCell W10 ⟨w.heap.size, 0, none⟩ _ g (fun e => by
                subst e
                rw [show W10.heap[w.heap.size]? = _ from r10] at hc; injection hc with hc; injection hc with _ hc _
                subst hc; revert ht; decide)⟩ (by decide)).more
              rw [HPQ.out, hfp, if_pos rfl, ← List.append_assoc, HXX.out, HXT.out]
              exact e
            · have e := (hr5.grown hg10 (hne10 _ (by decide) _ _ hr5)).off (p := ⟨w.heap.size, 0, none⟩) ne54 (.slice a10 XT.length c10)
              rw [HGP.out]
              exact e
            · rw [← gridR_snoc P (by omega), List.set_set]
            · rcases hv10 g hg with h | h
              · exact g6 g h
              · right; have := HZ9.out; omega
            · exact (r6.grown hg10 (hne10 _ (by decide) _ _ r6)).off (p := ⟨w.heap.size, 0, none⟩) (by show b6 ≠ w.heap.size; omega) _
            · exact (r7.grown hg10 (hne10 _ (by decide) _ _ r7)).off (p := ⟨w.heap.size, 0, none⟩) (by show b7 ≠ w.heap.size; omega) _
            · exact (r9.grown hg10 (hne10 _ (by decide) _ _ r9)).off (p := ⟨w.heap.size, 0, none⟩) (fun e => by
                have r4' : W9.heap[w.heap.size]? = _ := r4
                rw [← show B9 = w.heap.size from e, show W9.heap[B9]? = _ from r9] at r4'
                have e2 := Option.some.inj r4'
                injection e2 with _ e2 _
                exact absurd e2 (by decide)) _
            · exact gbNew (p := ⟨w.heap.size, 0, none⟩) (gbN hgb9 hg10 (fun k hk => g6 k hk)) (Nat.le_refl _) _
          · obtain ⟨q, hq⟩ : ∃ q, H.length = q + 1 := ⟨H.length - 1, by omega⟩
            have hz0 : ((H.length : Int) == 0) = false := beq_eq_false_iff_ne.2 (by omega)
            have hwq : IntKind.i64.wrap ((H.length : Int) - 1) = (q : Int) := by rw [hq]; rw [show (((q + 1 : Nat) : Int) - 1) = (q : Int) by omega]; exact IntWalk.i64_in _ (by omega)
            have hq16 : (q : Int) < 16 := by omega
            have hvq := vpl_valid HH.out q
            have hRq : R[q]'(by omega) = pad (H.getD q []) := by
              have e : (R.set H.length (pad []))[q]? = ((gridR H).set H.length (pad []))[q]? := by rw [HG5.out []]
              rw [List.getElem?_set_ne (by omega), List.getElem?_set_ne (by omega), List.getElem?_eq_getElem (by omega), List.getElem?_eq_getElem (by rw [HSQ.out.1]; omega)] at e
              rw [Option.some.inj e]
              exact gridR_gD HH.out (by omega) _
            have hrq := g3.rangeP g4.2 (j := q) (by omega)
            rw [hRq, Nat.mul_comm] at hrq
            have hiq : (Try.prog.info? 60).map (·.size) = some (ints (pad (H.getD q []))).length := by rw [List.length_map, pad_len (valid_bd hvq).2.2.2]; exact T_info35
            have HFQ : Hid (fitP H P = ins (H.getD q []) P) := Lib.hid (by unfold fitP; rw [decide_eq_false hi0, Bool.false_or, hq, Nat.add_sub_cancel])
            have HRQ : Hid (∀ w', Blk w' b5 76 (arr (List.flatten R)) → w'.rangeAt b5 (q * 16) (ints (pad (H.getD q [])))) := Lib.hid (fun w' h => by
              have e := h.rangeP g4.2 (j := q) (by omega)
              rw [hRq, Nat.mul_comm] at e
              exact e)
            clear hq hi0 hRq hrq g5
            gi_wp2_with fail
            refine wpIn_region_any hmx ?_
            obtain ⟨y, hy⟩ : ∃ y, W.drew = y := ⟨_, rfl⟩
            change wpAnyIn _ _ _ _ _ _ _ _ _ (World.drew _)
            rw [hy]
            have hky : Below W.heap.size W y := by rw [← hy]; exact (Dr.n W 1).below _
            clear hy
            have hBy : Blk y b6 3 #[.int .i64 H.length] := g7.below hky g7.lt
            have hDy : Blk y b5 76 (arr (List.flatten R)) := g3.below hky g3.lt
            have hEy : Blk y Bx 60 (arr (pad P)) := hbx.below hky hbx.lt
            refine wpAnyIn_first [(0, .int .i64 H.length), (1, .bool false), (2, .bool false), (3, .int .i64 H.length), (4, .int .i64 q), (5, .pointer (some ⟨b5, q * 16, none⟩)), (6, .agg (arr (pad (H.getD q [])))), (7, .agg (arr (pad P)))] (fun w' => Blk w' b6 3 #[.int .i64 H.length] ∧ Blk w' b5 76 (arr (List.flatten R)) ∧ Blk w' Bx 60 (arr (pad P))) _ _ _ rfl (by kernel_rfl) (by kernel_rfl) ⟨hBy, hDy, hEy⟩ #[true, true, true, true, true, true, true, true, false, false] (by kernel_rfl) 2 (by kernel_rfl) ?fix1 ?rest1
            case fix1 =>
              simp only [putsL, Act.put, List.getElem?_toArray, List.getElem?_cons_succ, List.getElem?_cons_zero, Option.bind_some, Nat.reduceAdd, List.setIfInBounds_toArray, List.set_cons_zero, List.set_cons_succ, List.map_cons, List.map_nil, List.getElem_toArray, List.getElem_cons_succ, List.getElem_cons_zero]
              refine FixS.cons rfl rfl (fun wq hq => opIn_val (w' := wq) (by simp [Oper.about]) ?_ ⟨rfl, rfl⟩) ?_
              · have hc : wq.cell? ⟨b6, 0, none⟩ = some (.int .i64 H.length) := by rw [hq.1.cell 0]; rfl
                go_simp
              refine FixS.cons rfl rfl (fun wq hq => opIn_val (w' := wq) (by simp [Oper.about]) (by go_simp) ⟨rfl, rfl⟩) ?_
              refine FixS.cons rfl rfl (fun wq hq => opIn_val (w' := wq) (by simp [Oper.about]) (by go_simp) ⟨rfl, rfl⟩) ?_
              refine FixS.cons rfl rfl (fun wq hq => opIn_val (w' := wq) (by simp [Oper.about]) ?_ ⟨rfl, rfl⟩) ?_
              · have hc : wq.cell? ⟨b6, 0, none⟩ = some (.int .i64 H.length) := by rw [hq.1.cell 0]; rfl
                go_simp
              refine FixS.cons rfl rfl (fun wq hq => opIn_val (w' := wq) (by simp [Oper.about]) (by go_simp) ⟨rfl, rfl⟩) ?_
              refine FixS.cons rfl rfl (fun wq hq => opIn_val (w' := wq) (by simp [Oper.about]) (by go_simp) ⟨rfl, rfl⟩) ?_
              refine FixS.cons rfl rfl (fun wq hq => opIn_loadv 60 (.tmp 31) rfl ⟨b5, q * 16, none⟩ rfl (run_loadVar_mid wq b5 (q * 16) 60 _ _ (HRQ.out wq hq.2.1) Try.underlying60 rfl hiq) ⟨rfl, rfl⟩) ?_
              refine FixS.cons rfl rfl (fun wq hq => opIn_loadv 60 (.tmp 10) rfl ⟨Bx, 0, none⟩ rfl (run_loadVar_row wq Bx 60 60 (arr (pad P)) (0, 0) _ hq.2.2 Try.underlying60 rfl hi16) ⟨rfl, rfl⟩) ?_
              exact FixS.nil
            simp only [putsL, Act.put, List.getElem?_toArray, List.getElem?_cons_succ, List.getElem?_cons_zero, Option.bind_some, Nat.reduceAdd, List.setIfInBounds_toArray, List.set_cons_zero, List.set_cons_succ, List.map_cons, List.map_nil, List.getElem_toArray, List.getElem_cons_succ, List.getElem_cons_zero]
            refine wpAnyS_one 8 _ (by kernel_rfl) rfl rfl (fun K hK => ?_)
            go_simp
            refine ⟨trivial, ?_⟩
            gi_at_call 86
            refine (CallsIn.inRound l (callsIn_wide.2 (hasInside_any (H.getD q []) P hvq hP y))).mono ?_
            rintro e W8 ⟨rfl, hb8⟩
            refine hK _ _ (fun _ => ⟨hBy.below hb8 hBy.lt, hDy.below hb8 hDy.lt, hEy.below hb8 hEy.lt⟩) ?_
            clear hK K
            simp only [putsL, Act.put, List.getElem?_toArray, List.getElem?_cons_succ, List.getElem?_cons_zero, Option.bind_some, Nat.reduceAdd, List.setIfInBounds_toArray, List.set_cons_zero, List.set_cons_succ, List.map_cons, List.map_nil, List.getElem_toArray, List.getElem_cons_succ, List.getElem_cons_zero]
            rw [← HFQ.out]
            refine wpAnyS_one 9 _ (by kernel_rfl) rfl rfl (fun K hK => ?_)
            refine opIn_val (v := .bool (fitP H P)) (w' := W8) (by simp [Oper.about]) (by go_simp) ?_
            refine hK _ _ (fun h => absurd rfl h) ?_
            clear hK K
            simp only [putsL, Act.put, List.getElem?_toArray, List.getElem?_cons_succ, List.getElem?_cons_zero, Option.bind_some, Nat.reduceAdd, List.setIfInBounds_toArray, List.set_cons_zero, List.set_cons_succ, List.map_cons, List.map_nil, List.getElem_toArray, List.getElem_cons_succ, List.getElem_cons_zero]
            unfold wpAnyS
            have hW8 : Below W.heap.size W W8 := hky.trans (hb8.mono hky.size)
            clear hb8 hBy hDy hEy hky hwq hq16 hiq
            obtain ⟨fb, hfb⟩ : ∃ fb, fitP H P = fb := ⟨_, rfl⟩
            rw [hfb]
            cases fb with
            | false =>
              gi_wp2_with fail
              have e := ip_below (pre := pre) ⟨⟨v, us', iv', R, g1, g2, g3, g4, HG5.out, g6⟩, g7, g8, g9, g10, g11⟩ hW8
              refine ⟨ko_below hW8, KpT.below hW8, ?_⟩
              unfold IP at e ⊢
              rw [HPQ.out, hfb]
              simpa using e
            | true =>
              have hfp := hfb
              -- the row fits: it is laid, and all that may stand on it
              have hB8 := hW8
              have hz8 := hB8.size
              have c4 : W8.cell? ⟨w.heap.size, 0, none⟩ = some v := by rw [(g1.below hB8 g1.lt).cell 0]; rfl
              have k5 := g3.below hB8 g3.lt
              have k6 := g7.below hB8 g7.lt
              have k7 := g8.below hB8 g8.lt
              have k9 := g9.below hB8 g9.lt
              have k4 := g1.below hB8 g1.lt
              have kx := hbx.below hB8 hbx.lt
              have hsqp := HSQP.out hfp
              have hr5 := k5.row (vs := arr (List.flatten (gridR (H ++ [P]))))
              have h256p := H256.out _ hsqp
              have ne56 : b5 ≠ b6 := by omega
              have ne57 : b5 ≠ b7 := by omega
              have ne54 : b5 ≠ w.heap.size := by omega
              have ne59 : B9 ≠ b5 := fun e => by
                subst e
                have k9' : W8.heap[B9]? = _ := k9
                rw [show W8.heap[B9]? = _ from k5] at k9'
                have e2 := Option.some.inj k9'
                injection e2 with _ e2 _
                exact absurd e2 (by decide)
              have hb8 : Below b5 W8 (W8.setRow b5 (arr (List.flatten (gridR (H ++ [P]))))) := below_setRow' (Below.refl _ _) (Nat.le_refl _) _
              have r4 : Blk (W8.setRow b5 (arr (List.flatten (gridR (H ++ [P]))))) w.heap.size 38 #[v] := k4.rowOff ne54.symm
              have r6 : Blk (W8.setRow b5 (arr (List.flatten (gridR (H ++ [P]))))) b6 3 #[.int .i64 H.length] := k6.rowOff ne56.symm
              have r7 : Blk (W8.setRow b5 (arr (List.flatten (gridR (H ++ [P]))))) b7 3 #[.int .i64 n] := k7.rowOff ne57.symm
              have r9 : Blk (W8.setRow b5 (arr (List.flatten (gridR (H ++ [P]))))) B9 3 #[.int .i64 k] := k9.rowOff ne59
              have c6 : W8.cell? ⟨b6, 0, none⟩ = some (.int .i64 H.length) := by rw [k6.cell 0]; rfl
              obtain ⟨W9, hW9⟩ : ∃ W9, W8.setRow b5 (arr (List.flatten (gridR (H ++ [P])))) = W9 := ⟨_, rfl⟩
              rw [hW9] at hr5 hb8 r4 r6 r7 r9
              have hz9 : W8.heap.size = W9.heap.size := by rw [← hW9]; simp [World.setRow]
              have HZ9 : Hid (W8.heap.size ≤ W9.heap.size) := Lib.hid (by omega)
              clear hz9
              have d4 : W9.cell? ⟨w.heap.size, 0, none⟩ = some v := by rw [r4.cell 0]; rfl
              have d6 : W9.cell? ⟨b6, 0, none⟩ = some (.int .i64 H.length) := by rw [r6.cell 0]; rfl
              have d7 : W9.cell? ⟨b7, 0, none⟩ = some (.int .i64 n) := by rw [r7.cell 0]; rfl
              have d9 : W9.cell? ⟨B9, 0, none⟩ = some (.int .i64 k) := by rw [r9.cell 0]; rfl
              have hw1 : IntKind.i64.wrap ((H.length : Int) + 1) = (((H ++ [P]).length : Nat) : Int) := by rw [List.length_append, List.length_singleton]; push_cast; exact IntWalk.i64_in _ (by omega)
              have hw2 : IntKind.i64.wrap ((n : Int) - (k : Int)) = (r : Int) := by rw [show (n : Int) - (k : Int) = (r : Int) by have := HRK.out; omega]; exact IntWalk.i64_in _ (by omega)
              have hpl9 : OwnBag EP W9 lo W.heap.size 43 1 v us' iv' (X ++ pqk f H n r ++ pqs (fun K => pq f K r) H (pre.map (·.1))) := by
                rw [← hW9]
                exact (g2.below ep_keep hB8).stay ep_keep ⟨by simp [World.setRow], fun g cs t ht _ _ hc => setRow_other _ _ _ _ (fun e => by
                  subst e
                  rw [show W8.heap[g]? = _ from k5] at hc; injection hc with hc; injection hc with _ hc _
                  subst hc; revert ht; decide)⟩ (by decide)
              have hgb9 : w.grownBy W9 v0.ownBlock := by rw [← hW9]; exact gbRow (gbBelow g10 hB8) (by omega) _
              have HK9 : Hid (∀ (g : Nat), g ≠ b5 → W9.heap[g]? = W8.heap[g]?) := Lib.hid (fun g hg => by rw [← hW9]; exact setRow_other _ _ _ _ hg)
              have hwl : lo ≤ W9.heap.size := by have := HZ9.out; omega
              have HCALL := Lib.hid (HIH.out (H ++ [P]) r lo W.heap.size v us' iv' _ W9 (by have := HRK.out; omega) (HFV.out hfp) hs2 hl2 hXl hpl9 hwl)
              have HPL9 := Lib.hid hpl9
              obtain ⟨aL, cL, hvL⟩ := hpl9.form
              have HVL := Lib.hid hvL
              have HNW : Hid (((H ++ [P]).length : Nat) = H.length + 1) := Lib.hid (by simp)
              obtain ⟨GP, hGP⟩ : ∃ GP, arr (List.flatten (gridR (H ++ [P]))) = GP := ⟨_, rfl⟩
              obtain ⟨nH, hnH⟩ : ∃ nH : Nat, (H ++ [P]).length = nH := ⟨_, rfl⟩
              obtain ⟨XX, hXX⟩ : ∃ XX, X ++ pqk f H n r ++ pqs (fun K => pq f K r) H (pre.map (·.1)) = XX := ⟨_, rfl⟩
              rw [hGP] at hr5 h256p HCALL
              rw [hXX] at HCALL HPL9
              obtain ⟨XT, hXT⟩ : ∃ XT, XX ++ pq f (H ++ [P]) r = XT := ⟨_, rfl⟩
              rw [hXT] at HCALL
              have HXX := Lib.hid hXX
              have HXT := Lib.hid hXT
              clear hXX hXT
              rw [hnH] at hw1 HCALL
              have HSW : Hid (W8.setRow b5 ((arr (List.flatten R)).toList.take (H.length * 16) ++ (arr (pad P)).toList ++ (arr (List.flatten R)).toList.drop (H.length * 16 + (arr (pad P)).size)).toArray = W9) := Lib.hid (by rw [HSTO.out]; exact hW9)
              have HGP : Hid (arr (List.flatten (gridR (H ++ [P]))) = GP) := Lib.hid hGP
              clear hpl9 hvL hW9 hsqp hGP hnH hXl hl2 hs2 hz0
              gi_wp2_with (first
                | (refine wpListIn_load_row rfl 60 (.tmp 10) rfl Bx rfl 60 (arr (pad P)) (0, 0) _ kx Try.underlying60 rfl hi16 ?_)
                | (refine wpListIn_store_at rfl 60 (.tmp 38) (.tmp 37) rfl b5 (H.length * 16) rfl (arr (pad P)) rfl 76 (arr (List.flatten R)) k5 hi16 hfit (arr_one _) ?_; rw [HSW.out])
                | (refine wpListIn_load_row rfl 76 (.tmp 5) rfl b5 rfl 76 GP (0, 0) _ hr5 Try.underlying76 rfl h256p ?_)
                | (refine ⟨trivial, ?_⟩; gi_at_call 55; refine (CallsIn.inRound l (callsIn_wide.2 HCALL.out)).mono ?_; rintro e W10 ⟨v', us'', iv'', rfl, hbag10, hg10, hv10⟩; (have hne10 : ∀ (t : TypeId), t ≠ 43 → ∀ (g : Nat) (cs : Array Value), Blk W9 g t cs → some g ≠ v.ownBlock := (fun t ht g cs hc e => by obtain ⟨cs', hc'⟩ := HPL9.out.cells g e.symm; rw [show W9.heap[g]? = _ from hc] at hc'; injection hc' with hc'; injection hc' with _ hc' _; exact ht hc')); (have r10 := r4.grown hg10 (hne10 _ (by decide) _ _ r4)); (obtain ⟨a10, c10, hv'⟩ := hbag10.form); (subst hv'); (have e10 : W10.cell? ⟨w.heap.size, 0, none⟩ = some v := by rw [r10.cell 0]; rfl); (have f10 := r10.free 0)))
              have kx1 : KpX badP W W9 := (KpX.below hB8).trans (by rw [← HSW.out]; exact KpX.setRow (show W8.heap[b5]? = _ from k5) (by decide))
              have kx2 : KpX badP W9 W10 := KpX.grown hg10 (fun g hg => by
                obtain ⟨cs, hc⟩ := HPL9.out.cells g hg
                exact ⟨cs, _, _, hc, by decide⟩)
              have kx := (kx1.trans kx2).trans (KpX.set (p := ⟨w.heap.size, 0, none⟩) (u := .slice a10 XT.length c10) (show W10.heap[w.heap.size]? = _ from r10) (by decide))
              refine ⟨kx.others, kx.kpT (by decide), ⟨_, us'', iv'', gridR (H ++ [P]), r10.set 0 _, ?_, ?_, HSQP.out hfp, fun Q => ?_, fun g hg => ?_⟩, ?_, ?_, ?_, ?_, fun D hD => kx.others.same _ _ (g11 D hD) rfl⟩
              · have e := (hbag10.stay ep_keep (w' := W10.setCell ⟨w.heap.size, 0, none⟩ (.slice a10 XT.length c10)) ⟨by simp [World.setCell], fun g cs t ht _ _ hc => Below.heap_setCell W10 ⟨w.heap.size, 0, none⟩ _ g (fun e => by
                  subst e
                  rw [show W10.heap[w.heap.size]? = _ from r10] at hc; injection hc with hc; injection hc with _ hc _
                  subst hc; revert ht; decide)⟩ (by decide)).more
                rw [HPQ.out, hfp, if_pos rfl, ← List.append_assoc, HXX.out, HXT.out]
                exact e
              · have e := (hr5.grown hg10 (hne10 _ (by decide) _ _ hr5)).off (p := ⟨w.heap.size, 0, none⟩) ne54 (.slice a10 XT.length c10)
                rw [HGP.out]
                exact e
              · rw [← gridR_snoc P (by omega), List.set_set]
              · rcases hv10 g hg with h | h
                · exact g6 g h
                · right; have := HZ9.out; omega
              · exact (r6.grown hg10 (hne10 _ (by decide) _ _ r6)).off (p := ⟨w.heap.size, 0, none⟩) (by show b6 ≠ w.heap.size; omega) _
              · exact (r7.grown hg10 (hne10 _ (by decide) _ _ r7)).off (p := ⟨w.heap.size, 0, none⟩) (by show b7 ≠ w.heap.size; omega) _
              · exact (r9.grown hg10 (hne10 _ (by decide) _ _ r9)).off (p := ⟨w.heap.size, 0, none⟩) (fun e => by
                  have r4' : W9.heap[w.heap.size]? = _ := r4
                  rw [← show B9 = w.heap.size from e, show W9.heap[B9]? = _ from r9] at r4'
                  have e2 := Option.some.inj r4'
                  injection e2 with _ e2 _
                  exact absurd e2 (by decide)) _
              · exact gbNew (p := ⟨w.heap.size, 0, none⟩) (gbN hgb9 hg10 (fun k hk => g6 k hk)) (Nat.le_refl _) _
        case done =>
          rintro D ys W hD hS hIW hK
          have HW := Lib.hid hIW
          obtain ⟨⟨v, us', iv', R, g1, g2, g3, g4, g5, g6⟩, g7, g8, g9, g10, g11⟩ := hIW
          have c9 : W.cell? ⟨B9, 0, none⟩ = some (.int .i64 k) := by rw [g9.cell 0]; rfl
          obtain ⟨j, hj⟩ : ∃ j, k = j + 1 := ⟨k - 1, by omega⟩
          have hwk : IntKind.i64.wrap ((k : Int) - 1) = (j : Int) := by rw [show (k : Int) - 1 = (j : Int) by omega]; exact IntWalk.i64_in _ (by omega)
          have HJ := Lib.hid hj
          have hgz := g10.size
          clear hj g1 g2 g3 g4 g5 g6 g7 g8 g11
          gi_wp2_with fail
          refine ⟨⟨_, _, _, _, _, _, _, _, _, _, _, _, _, _, _, _, _, _, _, _, _, _, _, _, _, _, _, _, _, _, _, _, ?rel, rfl⟩, ?measure⟩
          case rel =>
            have hkk := HKR.out
            have hjj := HJ.out
            have hDn : D ∉ Ds := fun hm => by have := HDl.out D hm; omega
            have hb : Below W.heap.size W (W.alloc (.cells #[.int .i64 (j : Int)] 3)) := (Below.refl _ _).alloc (Nat.le_refl _) _
            have e := ip_below HW.out hb
            refine ⟨r + 1, W.heap.size, D :: Ds, rfl, List.nodup_cons.2 ⟨hDn, hnd⟩, fun E hE => ?_, by omega, hgz, rfl, ?_⟩
            · rcases List.mem_cons.1 hE with rfl | hE
              · omega
              · exact hDw E hE
            · obtain ⟨⟨v, us', iv', R, g1, g2, g3, g4, g5, g6⟩, g7, g8, _, g10, g11⟩ := e
              have hnr : n - (r + 1) = j := by omega
              rw [hnr]
              refine ⟨⟨v, us', iv', R, g1, ?_, g3, g4, g5, g6⟩, g7, g8, Blk.new W _ _, g10, fun E hE => ?_⟩
              · rw [hS, List.append_assoc] at g2
                rw [pqk_succ, hkk, List.map_nil]
                simpa [pqs] using g2
              · rcases List.mem_cons.1 hE with rfl | hE
                · exact (Below.heap_alloc W _ _ (Array.getElem?_eq_some_iff.1 hK).1).trans hK
                · exact g11 E hE
          case measure =>
            have hjj := HJ.out
            have hcr := cellAt_blk HIP.out.2.2.2.1
            have hcn := cellAt_blk (Blk.new W 3 #[.int .i64 (j : Int)])
            show cellAt (.pointer (some ⟨W.heap.size, 0, none⟩)) _ < cellAt (.pointer (some ⟨B9, 0, none⟩)) wr
            rw [hcr, hcn]
            omega
        case stop =>
          rintro D c pre W _ _ h _
          exact h.elim
      · obtain rfl : r = n := by omega
        rw [Nat.sub_self] at hIP
        have HIP := Lib.hid hIP
        obtain ⟨⟨v, us', iv', R, g1, g2, g3, g4, g5, g6⟩, g7, g8, g9, g10, g11⟩ := hIP
        have c9 : wr.cell? ⟨B9, 0, none⟩ = some (.int .i64 0) := by rw [g9.cell 0]; rfl
        have c4 : wr.cell? ⟨w.heap.size, 0, none⟩ = some v := by rw [g1.cell 0]; rfl
        obtain ⟨a8, c8, hv8⟩ := g2.form
        subst hv8
        rw [show X ++ pqk f H r r ++ pqs (fun K => pq f K r) H (([] : List (VLs ((0 : Nat) : Int))).map (·.1)) = X ++ pqk f H r r by simp [pqs]] at g2 c4 g6
        obtain ⟨XT, hXT⟩ : ∃ XT, X ++ pqk f H r r = XT := ⟨_, rfl⟩
        rw [hXT] at g2 c4 g6
        have HXT := Lib.hid hXT
        clear g1 g3 g4 g5 g7 g8 g9 hXT HIP
        gi_wp2_with fail
        refine leaves_marks Ds wr hnd g11 (fun W' hs hk h1 h2 h3 => ?_)
        refine ⟨_, results_tmp rfl _ _ _, .slice a8 XT.length c8, us', iv', rfl, ?_, ?_, by rw [← HV0.out]; exact g6⟩
        · rw [HXT.out]
          exact (g2.stay ep_keep ⟨hs, fun g cs t _ _ _ hc => hk g (fun hm => by rw [g11 g hm] at hc; cases hc)⟩ (by decide)).more
        · rw [← HV0.out]
          exact ⟨h1.trans g10.1, h2.trans g10.2, h3.trans g10.3, Nat.le_trans g10.4 hs, fun q hq hne => (hk q (fun hm => by have := hDw q hm; omega)).trans (g10.5 q hq hne)⟩
end Go.Proofs.Ytgkghebjaedjmaa
namespace Go.Proofs.Ytgkghebjaedjmaa
open Go.RowKit Go.Shelf NP
set_option maxRecDepth 100000
set_option linter.unusedVariables false
set_option linter.unusedSimpArgs false
theorem T_bpile (w : World) : (Instr.build 76 #[]).run Try.prog w = .ok (.agg (arr (gridR []).flatten)) w := by kernel_rfl
theorem exec_build0 {P : Program} {ρ : Operand → Value} {o : Oper} {w : World} {v : Value} (t : TypeId) (ho : o.op = .build t #[]) (h : (Instr.build t #[]).run P w = .ok v w) :
    (execOp ρ o).run P w = .ok (.value v) w := by
  unfold execOp
  simp only [ho, Sem.run_bind, List.map_toArray, List.map_nil]
  rw [h]
  rfl
theorem wpList_execP {P : Program} {w : World} {ops : Array Oper} {rest : List Oper} {o : Oper} {a : Act} {Q : Exit → Act → World → Prop} (hgd : o.guard = none) {v : Value} (h : (execOp a.eval o).run P w = .ok (.value v) w)
    (hk : wpList P ops Q rest (a.put o.dst v) w) : wpList P ops Q (o :: rest) a w :=
  wpList_plain hgd fun _ hK => by
    unfold Oper.wp
    rw [h]
    exact hK _ _ hk
theorem allPiles_yes (k : Nat) (hk : k ≤ 6) (w : World) :
    Calls Try.prog 21 #[.int .i64 k] w fun e w' => ∃ a' c' us iv, e = .returned (.slice a' (pq k [] k).length c') ∧ OwnBag EP w' w.heap.size w'.heap.size 43 1 (.slice a' (pq k [] k).length c') us iv (pq k [] k) ∧ Below w.heap.size w w' := by
  have d1 : decide ((k : Int) < 0) = false := decide_eq_false (by omega)
  have d2 : decide ((6 : Int) < (k : Int)) = false := decide_eq_false (by omega)
  have d2' : decide (6 < k) = false := decide_eq_false (by omega)
  have HC := Lib.hid (wpf_any k [] k w.heap.size w.heap.size (.slice none 0 0) [] [] [] w (Nat.le_refl _) vpl_nil (by simp [sumLL, sumL]; omega) (by simpa using hk) (by simp; omega) (OwnBag.nil w _ _ _) (Nat.le_refl _))
  obtain ⟨G, hG⟩ : ∃ G, G = arr (gridR []).flatten := ⟨_, rfl⟩
  have hB := T_bpile
  rw [← hG] at HC hB
  clear hG
  go_enter Try.func21, Try.ntmps21
  go_wp2_with (first
    | ((with_reducible show wpList _ _ _ (Oper.mk _ (Op.build _ _) _ _ _ _ :: _) _ _); refine wpList_execP rfl (exec_build0 (v := .agg G) 76 rfl (hB _)) ?_)
    | (go_at_call 55; refine HC.out.mono ?_; rintro e w1 ⟨v', us, iv, rfl, hbag, hg, -⟩))
  obtain ⟨a', c', rfl⟩ := hbag.form
  have hb : Below w.heap.size w w1 := (Below.refl _ w).grown hg (Nat.le_refl _) (fun g hg => by simp [Value.ownBlock] at hg)
  go_ret
  exact ⟨a', c', us, iv, by simp, by simpa using hbag, hb⟩
theorem allPiles_no (n : Int) (h : ¬ (0 ≤ n ∧ n ≤ 6)) (w : World) :
    Calls Try.prog 21 #[.int .i64 n] w fun e w' => e = .returned (.slice none 0 0) ∧ Below w.heap.size w w' := by
  by_cases h0 : n < 0
  · have d1 : decide (n < 0) = true := decide_eq_true h0
    go_enter Try.func21, Try.ntmps21
    go_wp2_with fail
    go_ret
    exact ⟨rfl, Below.refl _ _⟩
  · have d1 : decide (n < 0) = false := decide_eq_false h0
    have d2 : decide (6 < n) = true := decide_eq_true (by omega)
    go_enter Try.func21, Try.ntmps21
    go_wp2_with fail
    go_ret
    exact ⟨rfl, Below.refl _ _⟩
theorem iAllPiles_any (n : Int) (w : World) :
    Calls Try.prog 21 #[.int .i64 n] w fun e w' => ∃ a' c' us iv, e = .returned (.slice a' (pilF n).length c') ∧ OwnBag EP w' w.heap.size w'.heap.size 43 1 (.slice a' (pilF n).length c') us iv (pilF n) ∧ Below w.heap.size w w' := by
  by_cases h : 0 ≤ n ∧ n ≤ 6
  · obtain ⟨k, rfl⟩ := Int.eq_ofNat_of_zero_le h.1
    have hk : k ≤ 6 := by omega
    rw [pilF_yes hk]
    exact allPiles_yes k hk w
  · rw [pilF_no h]
    refine (allPiles_no n h w).mono ?_
    rintro e w' ⟨rfl, hb⟩
    exact ⟨none, 0, [], [], rfl, (OwnBag.nil w' w.heap.size _ _), hb⟩
end Go.Proofs.Ytgkghebjaedjmaa
namespace Go.Proofs.Ytgkghebjaedjmaa
open Go.RowKit NP
set_option maxRecDepth 100000
set_option linter.unusedVariables false
set_option linter.unusedSimpArgs false
theorem T_rowsI : (Try.prog.info? 30).map (fun i => (i.zero, i.size, i.bytes)) = some (some (.slice none 0 0), 1, 24) := by kernel_rfl
theorem T_rowI : (Try.prog.info? 3).map (fun i => (i.zero, i.size, i.bytes)) = some (some (.int .i64 0), 1, 8) := by kernel_rfl
theorem ints_oneQ (L : List Int) : ∀ u ∈ ints L, u.oneCell' = true := fun u hu => by simp [ints] at hu; obtain ⟨y, _, rfl⟩ := hu; rfl
set_option maxHeartbeats 4000000 in
theorem copyRows_any (LL : List (List Int)) (a : Option Addr) (c B : Nat) (w : World) (h : RdLL w B a LL) (hB : B ≤ w.heap.size) (hl : LL.length ≤ 1000) (hil : ∀ L ∈ LL, L.length ≤ 1000) :
    Calls Try.prog 83 #[.slice a LL.length c] w fun e w' => ∃ a' c' vs, e = .returned (.slice a' LL.length c') ∧ OwnLL w' w.heap.size w'.heap.size 30 3 (.slice a' LL.length c') vs LL ∧ Below w.heap.size w w' := by
  obtain ⟨i1, hi1, hy0, hy1, hy2⟩ := info_parts T_rowsI
  obtain ⟨ii, hii, hii0, hii1, hii2⟩ := info_parts T_rowI
  have he0 := (OwnLL.empty w 30 3).more
  have hbe : Below w.heap.size w (w.alloc (.cells #[] 30)) := (Below.refl _ _).alloc (Nat.le_refl _) _
  have HR := Lib.hid (h.more hB)
  have HIL := Lib.hid hil
  clear h hil
  go_enter Try.func83, Try.ntmps83
  go_wp2_with fail
  go_loopw [3, 4] (fun vo vi wr => ∃ (k : Nat) (vs : List Value), vi = .int .i64 k ∧ k ≤ LL.length ∧ OwnLL wr w.heap.size wr.heap.size 30 3 vo vs (LL.take k) ∧ Below w.heap.size w wr) (fun _ vi _ => LL.length - (intOf vi).toNat)
  case atStart => exact ⟨0, [], rfl, Nat.zero_le _, by simpa using he0, hbe⟩
  case round =>
    obtain ⟨k, vs, rfl, hk, hLL, hbel⟩ := hrel
    obtain ⟨wo, rfl⟩ : ∃ wo : World, wo = wr := ⟨_, rfl⟩
    clear he0 hbe
    by_cases hlt : k < LL.length
    · have hlt' : (k : Int) < (LL.length : Int) := by omega
      obtain ⟨b1, o1, a1, c1, rfl, hb1, hc1, hr1, -⟩ := (HR.out.below hbel).at_ hlt
      have hLl := HIL.out _ (List.getElem_mem hlt)
      have HTK : Hid (LL.take (k + 1) = LL.take k ++ [LL[k]]) := Lib.hid (List.take_succ_eq_append_getElem hlt)
      obtain ⟨L, hL⟩ : ∃ L, L = LL[k] := ⟨_, rfl⟩
      rw [← hL] at hc1 hr1 hLl HTK
      have hc1a : ∀ o, (wo.alloc o).cell? ⟨b1, o1 + k, none⟩ = some (.slice a1 L.length c1) := fun o => (((Below.refl wo.heap.size wo).alloc (Nat.le_refl _) o).cell (p := ⟨b1, o1 + k, none⟩) (World.block_lt_of_cell? _ _ hc1)).trans hc1
      have hvl := hLL.len
      have hvs : vs.length ≤ 1000 := by rw [hvl, List.length_take]; omega
      have HLL := Lib.hid hLL
      have hzw := hbel.size
      clear hL hLL hvl
      go_wp2_with (first
        | (at_builtin; refine wpList_append_o _ rfl (.tmp 13) (.tmp 17) 30 rfl wo.heap.size (wo.heap.size + 1) 3 ii (.int .i64 0) 8 Try.underlying30 hii hii0 hii1 hii2 rfl _ [] rfl (Own.empty wo 3) w.heap.size a1 L.length c1 (ints L) rfl (hr1.below ((Below.refl _ _).alloc hzw _)) (by simp) (ints_oneQ L) (by simp; unfold maxLen; omega) (by simp; omega) (by simp) ?_; intro v6 w6 ho6 hg6 hat6; rw [List.nil_append] at ho6; have hf6 := ho6.form; rw [List.length_map] at hf6; obtain ⟨a6, c6, hv6⟩ := hf6; subst hv6; have hbe6 : Below wo.heap.size wo w6 := ((Below.refl _ wo).alloc (Nat.le_refl _) _).grown hg6 (by simp) (fun g hg => Nat.le_of_eq (Option.some.inj (show some wo.heap.size = some g from hg))); have hz6 := hbe6.size; have HO6 := Lib.hid ho6; have HLL7 := Lib.hid ((HLL.out.below hbe6).below ((Below.refl wo.heap.size w6).alloc hz6 (.cells #[.slice a6 L.length c6] 30))); clear ho6)
        | (at_builtin; refine wpList_append_o _ rfl (.tmp 12) (.tmp 19) 43 rfl w.heap.size wo.heap.size 30 i1 (.slice none 0 0) 24 Try.underlying43 hi1 hy0 hy1 hy2 rfl _ vs rfl HLL7.out.outer (w6.heap.size + 1) (some ⟨w6.heap.size, 0, none⟩) 1 1 [.slice a6 L.length c6] rfl (Rd.one w6 _ _) rfl (by simp; rfl) (by unfold maxLen; omega) (by omega) (by simp; omega) ?_; intro v8 w8 ho8 hg8 hat8))
      go_roundw
      case rel =>
        have e := HLL7.out.append (HO6.out.alloc (.cells #[.slice a6 L.length c6] 30)) (Nat.le_refl _) hzw ho8 hg8 hat8
        rw [← HTK.out] at e
        exact ⟨k + 1, _, by go_num, by omega, e, (((hbel.trans (hbe6.mono hzw)).alloc (by omega) _).grown hg8 (by simp; omega) (fun g hg => HLL7.out.outer.base g hg))⟩
      case measure => simp [intOf]; omega
    · obtain rfl : k = LL.length := by omega
      rw [List.take_length] at hLL
      obtain ⟨aO, cO, rfl⟩ := hLL.form
      go_wp2_with fail
      go_ret
      exact ⟨aO, cO, vs, rfl, hLL, hbel⟩
end Go.Proofs.Ytgkghebjaedjmaa
namespace Go.Proofs.Ytgkghebjaedjmaa
open Go.RowKit NP
set_option maxRecDepth 100000
set_option linter.unusedVariables false
set_option linter.unusedSimpArgs false
theorem dr_cell {w w' : World} (h : Dr w w') (p : Addr) : w'.cell? p = w.cell? p := by obtain ⟨n, rfl⟩ := h; rfl
theorem vfits {L : List Int} (h : valid L = true) : sumFits L := valid_fits h
set_option maxHeartbeats 4000000 in
theorem validPile_any (a : Option Addr) (c B : Nat) (LL : List (List Int)) (w : World) (h : RdLL w B a LL) (hn : LL.length ≤ 1099511627776) (hil : ∀ L ∈ LL, L.length ≤ 4611686018427387904) :
    Calls Try.prog 84 #[.slice a LL.length c] w fun e w' => e = .returned (.bool (vpl LL)) ∧ Dr w w' := by
  have HIL := Lib.hid hil
  clear hil
  go_enter Try.func84, Try.ntmps84
  go_wp2_with fail
  go_loopw [3, 4] (fun vn vi wr => ∃ k : Nat, k ≤ LL.length ∧ vi = .int .i64 k ∧ vn = .int .i64 (sumLL (LL.take k)) ∧ Dr w wr ∧ Hid (∀ i, i < k → pgd LL i)) (fun _ vi _ => LL.length - (intOf vi).toNat)
  case atStart => exact ⟨0, Nat.zero_le _, rfl, rfl, Dr.refl w, Lib.hid fun i hi => by omega⟩
  case round =>
    obtain ⟨k, hk, rfl, rfl, hdr, HP⟩ := hrel
    obtain ⟨wo, rfl⟩ : ∃ wo : World, wo = wr := ⟨_, rfl⟩
    have hsb := sumLL_pbd hk HP.out
    by_cases hlt : k < LL.length
    · have hlt' : (k : Int) < (LL.length : Int) := by omega
      obtain ⟨b1, o1, a1, c1, rfl, -, hc1, hr1, -⟩ := (h.dr hdr).at_ hlt
      have hll := HIL.out _ (List.getElem_mem hlt)
      have HBR := Lib.hid (vpl_badrow hlt)
      have HSS := Lib.hid (sumLL_succ hlt)
      have HPS := Lib.hid (pgd_step hlt)
      have HBC : Hid (∀ j m, (hj : k = j + 1) → (LL[j]'(by omega)).getD m 0 < LL[k].getD m 0 → vpl LL = false) := Lib.hid (fun j m hj hh => by subst hj; exact vpl_badcell hlt hh)
      obtain ⟨L, hL⟩ : ∃ L, L = LL[k] := ⟨_, rfl⟩
      rw [← hL] at hc1 hr1 hll HBR HSS HPS HBC
      clear hL
      cases hv : valid L with
      | false =>
        have HF : Hid (vpl LL = false) := Lib.hid (HBR.out (.inl hv))
        have HV := Lib.hid hv
        clear hv
        go_wp2_with (go_at_call 65; refine (validParts_any a1 c1 _ L _ hr1 hll).mono ?_; rintro e wv ⟨rfl, n1, rfl⟩; rw [HV.out])
        go_ret
        exact ⟨ret_bool HF.out.symm, hdr.trans (Dr.n _ _)⟩
      | true =>
        have HV := Lib.hid hv
        have hbd := valid_bd hv
        by_cases hz : L.length = 0
        · have hLn : L = [] := List.eq_nil_of_length_eq_zero hz
          have HF : Hid (vpl LL = false) := Lib.hid (HBR.out (.inr hLn))
          have hz0 : (((L.length : Nat) : Int) == 0) = true := beq_iff_eq.2 (by omega)
          have hc1' := Lib.hid hc1
          clear hLn hv hz
          have hcd : ∀ n, (wo.drewN n).cell? ⟨b1, o1 + k, none⟩ = some (.slice a1 L.length c1) := fun n => hc1
          go_wp2_with (go_at_call 65; refine (validParts_any a1 c1 _ L _ hr1 hll).mono ?_; rintro e wv ⟨rfl, n1, rfl⟩; rw [HV.out])
          go_ret
          exact ⟨ret_bool HF.out.symm, hdr.trans (Dr.n _ _)⟩
        · have hz0 : (((L.length : Nat) : Int) == 0) = false := beq_eq_false_iff_ne.2 (by omega)
          have HNE : Hid (L ≠ []) := Lib.hid (fun e => hz (by rw [e]; rfl))
          have HVF := Lib.hid (vfits hv)
          have hs0 : 0 ≤ sumL L ∧ sumL L ≤ 16 := ⟨hbd.1, hbd.2.1⟩
          clear hv hz
          by_cases hk0 : k = 0
          · subst hk0
            rw [Nat.add_zero] at hc1
            have hs00 : sumLL [] = 0 := rfl
            have HPG : Hid (pgd LL 0) := Lib.hid (HPS.out HV.out HNE.out (fun j hj => by omega))
            go_wp2_with (first
              | (go_at_call 65; refine (validParts_any a1 c1 _ L _ hr1 hll).mono ?_; rintro e wv ⟨rfl, n1, rfl⟩; rw [HV.out])
              | (go_at_call 89; refine (sum_any a1 c1 _ L _ (hr1.dr (Dr.n wo n1)) HVF.out hll).mono ?_; rintro e wv ⟨rfl, rfl⟩))
            go_loopw [5] (fun i wr => i = .int .i64 0 ∧ wr = wo.drewN n1) (fun _ _ => 0)
            case atStart => exact ⟨rfl, rfl⟩
            case round =>
              obtain ⟨rfl, rfl⟩ := hrel
              go_wp2_with fail
              go_roundw
              case rel => exact ⟨1, by omega, by go_num, congrArg (Value.int .i64) (by rw [HSS.out]; show sumL L = 0 + sumL L; omega), hdr.trans (Dr.n _ _), Lib.hid fun i hi => by rw [show i = 0 by omega]; exact HPG.out⟩
              case measure => simp [intOf]; omega
          · obtain ⟨j, rfl⟩ : ∃ j, k = j + 1 := ⟨k - 1, by omega⟩
            have hjl : j < LL.length := by omega
            have hlt2 : (j : Int) + 1 < (LL.length : Int) := by omega
            go_wp2_with (first
              | (go_at_call 65; refine (validParts_any a1 c1 _ L _ hr1 hll).mono ?_; rintro e wv ⟨rfl, n1, rfl⟩; rw [HV.out])
              | (go_at_call 89; refine (sum_any a1 c1 _ L _ (hr1.dr (Dr.n wo n1)) HVF.out hll).mono ?_; rintro e wv ⟨rfl, rfl⟩))
            obtain ⟨b2, o2, a2, c2, e2, -, hc2, hr2, -⟩ := ((h.dr hdr).dr (Dr.n wo n1)).at_ hjl
            injection e2 with e2; injection e2 with e3 e4; subst e3 e4
            have hpp := (HP.out j (by omega)).1
            rw [gl_lt hjl] at hpp
            have hbp := valid_bd hpp
            have HBC2 := Lib.hid (fun m => HBC.out j m rfl)
            have HPG2 := Lib.hid (HPS.out HV.out HNE.out)
            have HPG3 : Hid ((∀ m, m < L.length → L.getD m 0 ≤ LL[j].getD m 0) → pgd LL (j + 1)) := Lib.hid (fun hh => HPG2.out (fun i hi => by
              obtain rfl : j = i := by omega
              exact ⟨hpp, hh⟩))
            have hc1d : (wo.drewN n1).cell? ⟨b1, o1 + (j + 1), none⟩ = some (.slice a1 L.length c1) := hc1
            have hr1d := hr1.dr (Dr.n wo n1)
            obtain ⟨P, hP⟩ : ∃ P, P = LL[j] := ⟨_, rfl⟩
            rw [← hP] at hc2 hr2 hbp HBC2 HPG3
            have HPN := Lib.hid (getD_nn (hP ▸ hpp))
            clear hP hpp HPG2 HBC HPS hk0 hc1 hr1
            have hj0 : (0 : Int) < (j : Int) + 1 := by omega
            have hwj : IntKind.i64.wrap (j : Int) = (j : Int) := IntWalk.i64_in _ (by omega)
            have hjl' : (j : Int) < (LL.length : Int) := by omega
            go_loopw [5] (fun i wr => ∃ m : Nat, m ≤ L.length ∧ i = .int .i64 m ∧ Dr (wo.drewN n1) wr ∧ Hid (∀ q, q < m → L.getD q 0 ≤ P.getD q 0)) (fun i _ => 20 - (intOf i).toNat)
            case atStart => exact ⟨0, Nat.zero_le _, rfl, Dr.refl _, Lib.hid fun q hq => by omega⟩
            case round =>
              obtain ⟨m, hm, rfl, hdq, HJ⟩ := hrel
              have hq1 : wr.cell? ⟨b1, o1 + (j + 1), none⟩ = some (.slice a1 L.length c1) := (dr_cell hdq _).trans hc1d
              have hq2 : wr.cell? ⟨b1, o1 + j, none⟩ = some (.slice a2 P.length c2) := (dr_cell hdq _).trans hc2
              by_cases hml : m < L.length
              · have hml' : (m : Int) < (L.length : Int) := by omega
                obtain ⟨b3, o3, rfl, _, hc3⟩ := (hr1d.dr hdq).at_ hml
                have HX : Hid (L.getD m 0 = L[m]) := Lib.hid (getD_lt hml)
                by_cases hmp : m < P.length
                · have hmp' : (m : Int) < (P.length : Int) := by omega
                  have hg1 : decide ((P.length : Int) ≤ (m : Int)) = false := decide_eq_false (by omega)
                  have hg1' : decide (P.length ≤ m) = false := decide_eq_false (by omega)
                  obtain ⟨b4, o4, rfl, _, hc4⟩ := (hr2.dr hdq).at_ hmp
                  have HY : Hid (P.getD m 0 = P[m]) := Lib.hid (getD_lt hmp)
                  generalize L[m] = y at *
                  generalize P[m] = x at *
                  by_cases hxy : x < y
                  · have d3 : decide (x < y) = true := decide_eq_true hxy
                    have HF : Hid (vpl LL = false) := Lib.hid (HBC2.out m (by rw [HX.out, HY.out]; exact hxy))
                    clear hxy
                    go_wp2_with fail
                    go_quiet (fail)
                    go_wp2_with fail
                    go_ret
                    exact ⟨ret_bool HF.out.symm, ((hdr.trans (Dr.n _ _)).trans hdq).drewN _⟩
                  · have d3 : decide (x < y) = false := decide_eq_false hxy
                    have hyx : y ≤ x := by omega
                    clear hxy
                    go_wp2_with fail
                    go_quiet (fail)
                    go_wp2_with fail
                    go_roundw
                    case rel => exact ⟨m + 1, by omega, by go_num, hdq.drewN _, Lib.hid fun q hq => by
                      rcases Nat.lt_or_ge q m with h | h
                      · exact HJ.out q h
                      · obtain rfl : q = m := by omega
                        rw [HX.out, HY.out]; exact hyx⟩
                    case measure => simp [intOf]; omega
                · have hg1 : decide ((P.length : Int) ≤ (m : Int)) = true := decide_eq_true (by omega)
                  have hg1' : decide (P.length ≤ m) = true := decide_eq_true (by omega)
                  have HF : Hid (vpl LL = false) := Lib.hid (HBC2.out m (by
                    have h1 := preS_of_valid HV.out m hml hml
                    rw [HX.out, getD_ge (by omega)]; omega))
                  go_wp2_with fail
                  go_quiet (fail)
                  go_wp2_with fail
                  go_ret
                  exact ⟨ret_bool HF.out.symm, ((hdr.trans (Dr.n _ _)).trans hdq).drewN _⟩
              · obtain rfl : m = L.length := by omega
                have HPG : Hid (pgd LL (j + 1)) := Lib.hid (HPG3.out (fun q hq => HJ.out q hq))
                go_wp2_with fail
                go_roundw
                case rel => exact ⟨j + 1 + 1, by omega, by go_num, by rw [HSS.out], (hdr.trans (Dr.n _ _)).trans hdq, Lib.hid fun i hi => by
                  rcases Nat.lt_or_ge i (j + 1) with h | h
                  · exact HP.out i h
                  · obtain rfl : i = j + 1 := by omega
                    exact HPG.out⟩
                case measure => simp [intOf]; omega
    · obtain rfl : k = LL.length := by omega
      rw [List.take_of_length_le (Nat.le_refl _)] at hsb
      have HTK : Hid (LL.take LL.length = LL) := Lib.hid (List.take_of_length_le (Nat.le_refl _))
      have HE := Lib.hid (vpl_atEnd HP.out)
      rw [HTK.out]
      by_cases h16 : LL.length ≤ 16
      · have h16' : (LL.length : Int) ≤ 16 := by omega
        go_wp2_with fail
        go_ret
        exact ⟨ret_bool HE.out.symm, hdr⟩
      · have h16' : decide (LL.length ≤ 16) = false := decide_eq_false h16
        have HF := Lib.hid (vpl_long (LL := LL) (by omega))
        go_wp2_with fail
        go_ret
        exact ⟨ret_bool HF.out.symm, hdr⟩
end Go.Proofs.Ytgkghebjaedjmaa
namespace Go.Proofs.Ytgkghebjaedjmaa
open Go.RowKit NP
set_option maxRecDepth 8000
set_option linter.unusedVariables false
theorem keepD2 {wr wx w' : World} {p q : Addr} {x y : Value} (h1 : wx.cell? p = some x) (h2 : wx.cell? q = some y) (h3 : Dr wr wx) (hd : Dr wx w') : w'.cell? p = some x ∧ w'.cell? q = some y ∧ Dr wr w' := by
  obtain ⟨n, rfl⟩ := hd
  exact ⟨h1, h2, h3.drewN n⟩

theorem eqIntSS_same (a b : Option Addr) (ca cb Ba Bb : Nat) (LL : List (List Int)) (w : World) (h : RdLL w Ba a LL) (hm : RdLL w Bb b LL) (hl : LL.length ≤ 4611686018427387904) (hil : ∀ L ∈ LL, L.length ≤ 4611686018427387904) :
    Calls Try.prog 56 #[.slice a LL.length ca, .slice b LL.length cb] w fun e w' => e = .returned (.bool true) ∧ Dr w w' := by
  have hne : ((LL.length : Int) != (LL.length : Int)) = false := by simp
  go_enter Try.func56, Try.ntmps56
  go_wp2
  go_loopw [5] (fun i wr => ∃ k : Nat, k ≤ LL.length ∧ i = .int .i64 k ∧ Dr w wr) (fun i _ => LL.length - (intOf i).toNat)
  case atStart => exact ⟨0, Nat.zero_le _, rfl, Dr.refl _⟩
  case round =>
    obtain ⟨k, hk, rfl, hdr⟩ := hrel
    by_cases hlt : k < LL.length
    · obtain ⟨b1, o1, a1, c1, rfl, -, hc1, hr1, -⟩ := (h.dr hdr).at_ hlt
      obtain ⟨b2, o2, a2, c2, rfl, -, hc2, hr2, -⟩ := (hm.dr hdr).at_ hlt
      have hil' := hil LL[k] (List.getElem_mem hlt)
      clear hil h hm
      generalize LL[k] = M at hc1 hc2 hr1 hr2 hil'
      go_wp2_with fail
      go_region_held3 (fun w' => w'.cell? ⟨b1, o1 + k, none⟩ = some (.slice a1 M.length c1) ∧ w'.cell? ⟨b2, o2 + k, none⟩ = some (.slice a2 M.length c2) ∧ Dr wr w') (first | exact ⟨hc1, hc2, Dr.n wr 1⟩ | exact keepD2 (by assumption) (by assumption) (Dr.n wr 1) hd)
        (first | (go_at_call 37; refine (eqIntS_same a1 a2 c1 c2 Ba Bb M _ (hr1.dr (Dr.n wr 1)) (hr2.dr (Dr.n wr 1)) hil').mono ?_; rintro e w' ⟨rfl, hd⟩))
      have hdw : Dr wr w' := by obtain ⟨n, rfl⟩ := hd; exact (Dr.n wr 1).drewN n
      go_wp2_with fail
      go_roundw
      case rel => exact ⟨k + 1, by omega, by go_num, by obtain ⟨n, rfl⟩ := hdw; exact hdr.drewN n⟩
      case measure => simp [intOf]; omega
    · obtain rfl : k = LL.length := by omega
      go_wp2
      go_ret
      exact ⟨rfl, hdr⟩

theorem equalLists_same (a b : Option Addr) (ca cb Ba Bb : Nat) (LL : List (List Int)) (w : World) (h : RdLL w Ba a LL) (hm : RdLL w Bb b LL) (hl : LL.length ≤ 4611686018427387904) (hil : ∀ L ∈ LL, L.length ≤ 4611686018427387904) :
    Calls Try.prog 28 #[.slice a LL.length ca, .slice b LL.length cb] w fun e w' => e = .returned (.bool true) ∧ Dr w w' := by
  have hne : ((LL.length : Int) != (LL.length : Int)) = false := by simp
  go_enter Try.func28, Try.ntmps28
  go_wp2
  go_loopw [5] (fun i wr => ∃ k : Nat, k ≤ LL.length ∧ i = .int .i64 k ∧ Dr w wr) (fun i _ => LL.length - (intOf i).toNat)
  case atStart => exact ⟨0, Nat.zero_le _, rfl, Dr.refl _⟩
  case round =>
    obtain ⟨k, hk, rfl, hdr⟩ := hrel
    by_cases hlt : k < LL.length
    · obtain ⟨b1, o1, a1, c1, rfl, -, hc1, hr1, -⟩ := (h.dr hdr).at_ hlt
      obtain ⟨b2, o2, a2, c2, rfl, -, hc2, hr2, -⟩ := (hm.dr hdr).at_ hlt
      have hil' := hil LL[k] (List.getElem_mem hlt)
      clear hil h hm
      generalize LL[k] = M at hc1 hc2 hr1 hr2 hil'
      go_wp2_with fail
      go_region_held3 (fun w' => w'.cell? ⟨b1, o1 + k, none⟩ = some (.slice a1 M.length c1) ∧ w'.cell? ⟨b2, o2 + k, none⟩ = some (.slice a2 M.length c2) ∧ Dr wr w') (first | exact ⟨hc1, hc2, Dr.n wr 1⟩ | exact keepD2 (by assumption) (by assumption) (Dr.n wr 1) hd)
        (first | (go_at_call 52; refine (equalInts_same a1 a2 c1 c2 Ba Bb M _ (hr1.dr (Dr.n wr 1)) (hr2.dr (Dr.n wr 1)) hil').mono ?_; rintro e w' ⟨rfl, hd⟩))
      have hdw : Dr wr w' := by obtain ⟨n, rfl⟩ := hd; exact (Dr.n wr 1).drewN n
      go_wp2_with fail
      go_roundw
      case rel => exact ⟨k + 1, by omega, by go_num, by obtain ⟨n, rfl⟩ := hdw; exact hdr.drewN n⟩
      case measure => simp [intOf]; omega
    · obtain rfl : k = LL.length := by omega
      go_wp2
      go_ret
      exact ⟨rfl, hdr⟩
theorem markIntSS_any (a : Option Addr) (c lo hi : Nat) (m : Int) (LL : List (List Int)) (vs : List Value) (w : World) (h : OwnLL w lo hi 30 3 (.slice a LL.length c) vs LL) (hlo : lo ≤ hi) (hm : 0 ≤ m) (hm2 : m ≤ 1073741824) (hl : cntLL LL ≤ 1073741824) (hl2 : LL.length ≤ 1073741824) :
    Calls Try.prog 57 #[.slice a LL.length c, .int .i64 m] w fun e w' => e = .returned (.int .i64 (m + (cntLL LL : Int))) ∧ OwnLL w' lo hi 30 3 (.slice a LL.length c) vs (marksLL m LL) ∧ Below lo w w' := by
  go_enter Try.func57, Try.ntmps57
  go_wp2_with fail
  go_loopw [1, 5] (fun kk i wr => ∃ k : Nat, k ≤ LL.length ∧ i = .int .i64 k ∧ kk = .int .i64 (m + (cntLL (LL.take k) : Int)) ∧ Below lo w wr ∧ OwnLL wr lo hi 30 3 (.slice a LL.length c) vs (marksLL m (LL.take k) ++ LL.drop k)) (fun _ i _ => LL.length - (intOf i).toNat)
  case atStart => exact ⟨0, Nat.zero_le _, rfl, by simp [cntLL], Below.refl _ _, by simpa [marksLL] using h⟩
  case round =>
    obtain ⟨k, hk, rfl, rfl, hbr, hor⟩ := hrel
    clear h
    have hck := cntLL_take LL k
    by_cases hlt : k < LL.length
    · have hge : ∀ hh, (marksLL m (LL.take k) ++ LL.drop k)[k]'hh = LL[k] := fun hh => by
        have e1 : (marksLL m (LL.take k)).length = k := by rw [marksLL_len, List.length_take]; omega
        rw [List.getElem_append_right (by omega)]
        simp [e1]
      obtain ⟨g, a', c', rfl, hg1, hg2, hcell, hown, hvs⟩ := hor.at_ (k := k) (by simp [marksLL_len]; omega)
      rw [hge] at hcell hown hvs
      have hset := marksLL_set m hlt
      have hcs : cntLL (LL.take (k + 1)) = cntLL (LL.take k) + LL[k].length := by rw [List.take_succ_eq_append_getElem hlt, cntLL_append]
      have hck1 := cntLL_take LL (k + 1)
      rw [hcs] at hck1
      have HCS := Lib.hid hcs
      have HSET := Lib.hid hset
      have HOR := Lib.hid hor
      clear hge hcs hset hor
      generalize LL[k] = M at hcell hown hvs hck1 HCS HSET
      obtain ⟨q, hq⟩ : ∃ q : Int, q = m + (cntLL (LL.take k) : Int) := ⟨_, rfl⟩
      rw [← hq]
      have hq0 : 0 ≤ q ∧ q ≤ 2147483648 := by omega
      have HQ := Lib.hid hq
      clear hq
      go_wp2_with (go_at_call 46; refine (markIntS_any a' c' lo hi q M _ hown hq0.1 (by omega) (by omega)).mono ?_; rintro e w' ⟨rfl, ho', hgr⟩)
      go_roundw
      case rel =>
        have hnew := HOR.out.setIn hvs hgr (L := (List.range M.length).map fun (j : Nat) => q + (j : Int)) ho'
        rw [HQ.out, HSET.out] at hnew
        exact ⟨k + 1, by omega, by go_num, by rw [HCS.out, HQ.out]; congr 1; omega, hbr.trans (hown.belowMark (Nat.le_trans hlo hown.le) hgr), hnew⟩
      case measure => simp [intOf]; omega
    · obtain rfl : k = LL.length := by omega
      rw [List.take_length] at *
      go_wp2_with fail
      go_ret
      exact ⟨rfl, by simpa using hor, hbr⟩

theorem heldIntSS_any (a : Option Addr) (c B : Nat) (m : Int) (LL : List (List Int)) (w : World) (h : RdLL w B a (marksLL m LL)) (hm : 0 ≤ m) (hm2 : m ≤ 1073741824) (hl : cntLL LL ≤ 1073741824) (hl2 : LL.length ≤ 1073741824) :
    Calls Try.prog 58 #[.slice a LL.length c, .int .i64 m] w fun e w' => e = .returned (.int .i64 (m + (cntLL LL : Int))) ∧ w = w' := by
  go_enter Try.func58, Try.ntmps58
  go_wp2_with fail
  go_loopw [1, 5] (fun kk i wr => ∃ k : Nat, k ≤ LL.length ∧ i = .int .i64 k ∧ kk = .int .i64 (m + (cntLL (LL.take k) : Int)) ∧ w = wr) (fun _ i _ => LL.length - (intOf i).toNat)
  case atStart => exact ⟨0, Nat.zero_le _, rfl, by simp [cntLL], rfl⟩
  case round =>
    obtain ⟨k, hk, rfl, rfl, rfl⟩ := hrel
    have hck := cntLL_take LL k
    by_cases hlt : k < LL.length
    · have hge : ∀ hh, (marksLL m LL)[k]'hh = (List.range LL[k].length).map fun (j : Nat) => (m + (cntLL (LL.take k) : Int)) + (j : Int) := fun hh => by
        exact marksLL_get m LL k hlt hh
      obtain ⟨b, o, a', c', rfl, -, hcell, hr, -⟩ := h.at_ (k := k) (by rw [marksLL_len]; exact hlt)
      rw [hge] at hcell hr
      rw [List.length_map, List.length_range] at hcell
      have hcs : cntLL (LL.take (k + 1)) = cntLL (LL.take k) + LL[k].length := by rw [List.take_succ_eq_append_getElem hlt, cntLL_append]
      have hck1 := cntLL_take LL (k + 1)
      rw [hcs] at hck1
      have HCS := Lib.hid hcs
      clear hge hcs
      generalize LL[k] = M at hcell hr hck1 HCS
      obtain ⟨q, hq⟩ : ∃ q : Int, q = m + (cntLL (LL.take k) : Int) := ⟨_, rfl⟩
      rw [← hq] at hr ⊢
      have hq0 : 0 ≤ q ∧ q ≤ 2147483648 := by omega
      have hqn : decide (q + (M.length : Int) < 0) = false := decide_eq_false (by omega)
      have HQ := Lib.hid hq
      clear hq
      go_wp2_with (go_at_call 48; refine (heldIntS_any a' c' B M.length q _ hr hq0.1 (by omega) (by omega)).mono ?_; rintro e w' ⟨rfl, rfl⟩)
      go_roundw
      case rel => exact ⟨k + 1, by omega, by go_num, by rw [HCS.out, HQ.out]; congr 1; omega, trivial⟩
      case measure => simp [intOf]; omega
    · obtain rfl : k = LL.length := by omega
      rw [List.take_length] at *
      go_wp2_with fail
      go_ret
      exact ⟨rfl, rfl⟩
end Go.Proofs.Ytgkghebjaedjmaa
namespace Go.Proofs.Ytgkghebjaedjmaa
open Go.RowKit NP
set_option maxRecDepth 8000
set_option linter.unusedVariables false
theorem T_ints : (Try.prog.info? 30).map (fun i => (i.zero, i.size, i.bytes)) = some (some (.slice none 0 0), 1, 24) := by kernel_rfl

theorem slist_zero (a : Option Addr) (c B : Nat) (H : List Int) (most : Int) (w : World) (h : Rd w B a (ints H)) (hB : B ≤ w.heap.size) (hl : H.length ≤ 100) :
    Calls Try.prog 39 #[.slice a H.length c, .int .i64 0, .int .i64 most] w fun e w' => ∃ a' c' vs, e = .returned (.slice a' 1 c') ∧ OwnLL w' w.heap.size w'.heap.size 30 3 (.slice a' 1 c') vs [H] ∧ Below w.heap.size w w' := by
  obtain ⟨i0, hi, hz0, hz1, hz2⟩ := T_int'
  go_enter Try.func39, Try.ntmps39
  go_wp2_with (at_builtin; refine wpList_append_o _ rfl (.tmp 11) (.tmp 12) 30 rfl w.heap.size (w.heap.size + 1) 3 i0 (.int .i64 0) 8 Try.underlying30 hi hz0 hz1 hz2 rfl _ [] rfl (Own.empty w 3) B a H.length c (ints H) rfl (h.alloc hB _) (by simp) (ints_one H) (by simp; unfold maxLen; omega) (by simp; omega) (by simp) ?_; intro v' w1 ho1 hg1 hat1; rw [List.nil_append] at ho1; obtain ⟨a2, c2, rfl⟩ := ho1.form; rw [List.length_map] at ho1 ⊢)
  have hg2 : (w.alloc (.cells #[] 3)).grownBy w1 (some w.heap.size) := hg1
  have hz1' := hg2.size
  simp at hz1'
  have hbl : Below w.heap.size w w1 := below_push (Below.refl _ _) (Nat.le_refl _) hg2 (fun g hg => by cases hg; exact Nat.le_refl _)
  go_ret
  exact ⟨_, _, _, rfl, by have := OwnLL.single (eo := 30) ho1 (by omega); simpa using this, hbl.alloc (by omega) _⟩
end Go.Proofs.Ytgkghebjaedjmaa
namespace Go.Proofs.Ytgkghebjaedjmaa
open Go.RowKit NP
set_option maxRecDepth 8000
set_option linter.unusedVariables false
set_option linter.unusedSimpArgs false
theorem OwnLL.one {w : World} {lo hi : Nat} {eo e : TypeId} {v : Value} {vs : List Value} {LL : List (List Int)} (h : OwnLL w lo hi eo e v vs LL) : ∀ u ∈ vs, u.oneCell' = true := by
  intro u hu
  obtain ⟨k, hk, rfl⟩ := List.getElem_of_mem hu
  have hl : k < LL.length := by rw [← h.len]; exact hk
  obtain ⟨a, c, e⟩ := (h.inner k _ _ (List.getElem?_eq_getElem hk) (List.getElem?_eq_getElem hl)).form
  rw [e]; rfl
theorem upQ_le (f n top j : Nat) : (upQ f n top j).length ≤ (upQ f n top top).length := by
  unfold upQ
  rw [List.take_of_length_le (i := top) (by simp)]
  have h := List.take_append_drop j (List.range top).reverse
  have h2 : (((List.range top).reverse.take j ++ (List.range top).reverse.drop j).flatMap (pieceQ f n)).length = ((List.range top).reverse.flatMap (pieceQ f n)).length := by rw [h]
  rw [List.flatMap_append, List.length_append] at h2
  omega
def cntQ : Bool := (List.range 17).all fun f => (List.range 17).all fun n => (List.range 17).all fun m => decide ((allQ f n m).length ≤ 400)
set_option maxRecDepth 100000 in
theorem cntQ_all : cntQ = true := by decide +kernel
theorem allQ_le {f n m : Nat} (hf : f ≤ 16) (hn : n ≤ 16) (hm : m ≤ 16) : (allQ f n m).length ≤ 400 := by
  have h := cntQ_all
  unfold cntQ at h
  have h1 := List.all_eq_true.1 h f (by simp; omega)
  have h2 := List.all_eq_true.1 h1 n (by simp; omega)
  have h3 := List.all_eq_true.1 h2 m (by simp; omega)
  simpa using h3
theorem up_next (H : List Int) (f n top q : Nat) (h1 : 1 ≤ q) (hq : q ≤ top) : (upQ f n top (top - q)).map (H ++ ·) ++ (allQ f (n - q) q).map ((H ++ [(q : Int)]) ++ ·) = (upQ f n top (top - (q - 1))).map (H ++ ·) := by
  rw [show top - (q - 1) = (top - q) + 1 from by omega, upQ_succ _ _ _ _ (by omega), List.map_append, show top - 1 - (top - q) = q - 1 from by omega, map_piece, show q - 1 + 1 = q from by omega]
theorem T_ints' : ∃ i, Try.prog.info? 30 = some i ∧ i.zero = some (.slice none 0 0) ∧ i.size = 1 ∧ i.bytes = 24 := info_parts T_ints

def ListsTo (f : Nat) : Prop := ∀ (n : Nat) (a : Option Addr) (c B : Nat) (H : List Int) (most : Nat) (w : World), n ≤ f → H.length + f ≤ 60 → most ≤ 16 → Rd w B a (ints H) → B ≤ w.heap.size →
    Calls Try.prog 39 #[.slice a H.length c, .int .i64 (n : Int), .int .i64 (most : Int)] w fun e w' => ∃ a' c' vs, e = .returned (.slice a' (allQ f n most).length c') ∧ OwnLL w' w.heap.size w'.heap.size 30 3 (.slice a' (allQ f n most).length c') vs ((allQ f n most).map (H ++ ·)) ∧ Below w.heap.size w w'
theorem slist_base (f n : Nat) (hn : n = 0) (a : Option Addr) (c B : Nat) (H : List Int) (most : Nat) (w : World) (hl : H.length ≤ 60) (h : Rd w B a (ints H)) (hB : B ≤ w.heap.size) :
    Calls Try.prog 39 #[.slice a H.length c, .int .i64 (n : Int), .int .i64 (most : Int)] w fun e w' => ∃ a' c' vs, e = .returned (.slice a' (allQ f n most).length c') ∧ OwnLL w' w.heap.size w'.heap.size 30 3 (.slice a' (allQ f n most).length c') vs ((allQ f n most).map (H ++ ·)) ∧ Below w.heap.size w w' := by
  subst hn
  rw [allQ_zero]
  refine (slist_zero a c B H most w h hB (by omega)).mono ?_
  rintro e w' ⟨a', c', vs, rfl, ho, hb⟩
  exact ⟨a', c', vs, rfl, by simpa using ho, hb⟩
set_option maxHeartbeats 4000000 in
theorem slist_step (f : Nat) (hf : f < 16) (ih : ListsTo f) : ListsTo (f + 1) := by
  intro n a c B H most w hn hH hm hrd0 hB
  by_cases h0 : n = 0
  · exact slist_base (f + 1) n h0 a c B H most w (by omega) hrd0 hB
  obtain ⟨i0, hi, hz0, hz1, hz2⟩ := T_int'
  obtain ⟨i1, hj, hy0, hy1, hy2⟩ := T_ints'
  obtain ⟨top, htop⟩ : ∃ top, top = min n most := ⟨_, rfl⟩
  have htn : top ≤ n := by rw [htop]; exact Nat.min_le_left _ _
  have htm : top ≤ most := by rw [htop]; exact Nat.min_le_right _ _
  have hor : top = n ∨ top = most := by rw [htop]; rcases Nat.le_total n most with h | h <;> simp [h]
  have h1n : 1 ≤ n := by omega
  rw [allQ_up f n most h0, ← htop]
  have HALL : Hid ((upQ f n top top).length ≤ 400) := Lib.hid (by have := allQ_le (f := f + 1) (n := n) (m := most) (by omega) (by omega) (by omega); rw [allQ_up f n most h0, ← htop] at this; exact this)
  have hn0 : ((n : Int) == 0) = false := beq_eq_false_iff_ne.2 (by omega)
  have hE := OwnLL.empty w 30 3
  have hbE : Below w.heap.size w (w.alloc (.cells #[] 30)) := (Below.refl _ _).alloc (Nat.le_refl _) _
  have HTOP := Lib.hid htop
  clear htop
  by_cases hlt : most < n
  · have hlt' : (most : Int) < (n : Int) := by omega
    have htq : top = most := by rw [HTOP.out]; omega
    clear hor
    subst htq
    go_enter Try.func39, Try.ntmps39
    go_wp2_with fail
    clear hlt hlt'
    go_loopw [7, 8] (fun v kk wr => ∃ (q : Nat) (a' : Option Addr) (c' : Nat) (vs : List Value), kk = .int .i64 (q : Int) ∧ q ≤ top ∧ v = .slice a' (upQ f n top (top - q)).length c' ∧ Below w.heap.size w wr ∧ OwnLL wr w.heap.size wr.heap.size 30 3 (.slice a' (upQ f n top (top - q)).length c') vs ((upQ f n top (top - q)).map (H ++ ·))) (fun _ kk _ => (intOf kk).toNat)
    case atStart => exact ⟨top, _, _, _, rfl, Nat.le_refl _, by rw [Nat.sub_self, upQ_zero]; rfl, hbE, by rw [Nat.sub_self, upQ_zero]; exact hE.more⟩
    case round =>
      obtain ⟨q, a', c', vs, rfl, hq, rfl, hbel, hout⟩ := hrel
      have HOUT := Lib.hid hout
      have HV : Hid (vs.length = (upQ f n top (top - q)).length) := Lib.hid (by rw [hout.len, List.length_map])
      clear hout hE hbE
      by_cases hq0 : q = 0
      · subst hq0
        go_wp2_with fail
        go_ret
        exact ⟨a', c', vs, rfl, HOUT.out, hbel⟩
      · have hq1 : 1 ≤ q := by omega
        have hq1' : (1 : Int) ≤ (q : Int) := by omega
        have hrd := hrd0.below (hbel.mono hB)
        have hupn := upQ_le f n top (top - q + 1)
        rw [upQ_succ f n top (top - q) (by omega), List.length_append, show top - 1 - (top - q) = q - 1 from by omega] at hupn
        have hpl : (pieceQ f n (q - 1)).length = (allQ f (n - q) q).length := by unfold pieceQ; rw [List.length_map, show q - 1 + 1 = q from by omega]
        rw [hpl] at hupn
        have HUP : Hid ((upQ f n top (top - q)).length + (allQ f (n - q) q).length ≤ 400) := Lib.hid (Nat.le_trans hupn HALL.out)
        clear hupn hpl
        obtain ⟨G, hG⟩ : ∃ G, G = H ++ [(q : Int)] := ⟨_, rfl⟩
        have HGL : Hid (G.length + f ≤ 60) := Lib.hid (by rw [hG]; simp; omega)
        have HG := Lib.hid hG
        clear hG hq0
        have hcast : ((n - q : Nat) : Int) = (n : Int) - (q : Int) := by omega
        go_wp2_with (first
          | (at_builtin; refine wpList_append_o _ rfl (.tmp 23) (.tmp 34) 43 rfl w.heap.size wr.heap.size 30 i1 (.slice none 0 0) 24 Try.underlying43 hj hy0 hy1 hy2 rfl _ vs rfl (HOUT.out.outer.below hb35) w5.heap.size a5 (allQ f (n - q) q).length c5 vsx rfl HX.out.outer.rd (by rw [HX.out.len, List.length_map]) HX.out.one (by rw [HV.out]; unfold maxLen; have := HUP.out; omega) (by rw [HV.out]; have := HUP.out; omega) (by have := hbel.size; have := hb35.size; omega) ?_; intro v' w6 ho6 hg6 hat6; have hall := (HOUT.out.below hb35).appendAll HX.out hb4.size (Nat.le_trans hbel.size hb4.size) ho6 hg6 hat6; have hb6 : Below w.heap.size w w6 := (hbel.trans (hb35.mono hbel.size)).grown hg6 (by have := hbel.size; have := hb35.size; omega) HOUT.out.outer.base; clear ho6 hg6 hat6; rw [HG.out, up_next H f n _ q hq1 hq] at hall; obtain ⟨a6, c6, rfl⟩ := hall.form; rw [List.length_map] at hall ⊢)
          | (go_at_call 39; have ihh := ih (n - q) a4 c4 _ G q _ (by omega) HGL.out (by omega) HO4.out.rd (Nat.le_refl _); rw [hcast] at ihh; refine ihh.mono ?_; rintro e w5 ⟨a5, c5, vsx, rfl, hx5, hb5⟩; clear ihh; have hb35 : Below wr.heap.size wr w5 := hb4.trans (hb5.mono hb4.size); have HX := Lib.hid hx5; clear hx5)
          | (at_builtin; refine wpList_append_o _ rfl (.tmp 26) (.tmp 28) 30 rfl wr.heap.size w3.heap.size 3 i0 (.int .i64 0) 8 Try.underlying30 hi hz0 hz1 hz2 rfl _ (ints H) rfl (HO3.out.alloc _) (w3.heap.size + 1) (some ⟨w3.heap.size, 0, none⟩) 1 1 [.int .i64 (q : Int)] rfl (Rd.one w3 _ _) rfl (by simp; rfl) (by simp; unfold maxLen; omega) (by simp; omega) (by rw [World.size_alloc]; have := hb3.size; omega) ?_; intro v' w4 ho4 hg4 hat4; clear hat4; have hb4 : Below wr.heap.size wr w4 := below_push hb3 (Nat.le_refl _) hg4 HO3.out.base; clear hg4; rw [show ints H ++ [Value.int .i64 (q : Int)] = ints G from by rw [HG.out]; simp [ints]] at ho4; obtain ⟨a4, c4, rfl⟩ := ho4.form; rw [List.length_map] at ho4 ⊢; have HO4 := Lib.hid ho4; clear ho4)
          | (at_builtin; refine wpList_append_o _ rfl (.tmp 24) (.tmp 25) 30 rfl wr.heap.size (wr.heap.size + 1) 3 i0 (.int .i64 0) 8 Try.underlying30 hi hz0 hz1 hz2 rfl _ [] rfl (Own.empty wr 3) B a H.length c (ints H) rfl (hrd.alloc (Nat.le_trans hB hbel.size) _) (by simp) (ints_one H) (by simp; unfold maxLen; omega) (by simp; omega) (by simp) ?_; intro v' w3 ho3 hg3 hat3; rw [List.nil_append] at ho3; clear hat3; obtain ⟨a3, c3, rfl⟩ := ho3.form; rw [List.length_map] at ho3 ⊢; have hb3 : Below wr.heap.size wr w3 := below_push (Below.refl _ _) (Nat.le_refl _) hg3 (fun g hg => by cases hg; exact Nat.le_refl _); clear hg3; have HO3 := Lib.hid ho3; clear ho3))
        go_roundw
        case rel =>
          exact ⟨q - 1, a6, c6, _, by rw [show ((q - 1 : Nat) : Int) = (q : Int) - 1 from by omega], by omega, rfl, hb6, hall⟩
        case measure => simp [intOf]; omega

  · have hlt' : ¬ (most : Int) < (n : Int) := by omega
    have htq : n = top := by rw [HTOP.out]; omega
    clear hor
    subst htq
    go_enter Try.func39, Try.ntmps39
    go_wp2_with fail
    clear hlt hlt'
    go_loopw [7, 8] (fun v kk wr => ∃ (q : Nat) (a' : Option Addr) (c' : Nat) (vs : List Value), kk = .int .i64 (q : Int) ∧ q ≤ n ∧ v = .slice a' (upQ f n n (n - q)).length c' ∧ Below w.heap.size w wr ∧ OwnLL wr w.heap.size wr.heap.size 30 3 (.slice a' (upQ f n n (n - q)).length c') vs ((upQ f n n (n - q)).map (H ++ ·))) (fun _ kk _ => (intOf kk).toNat)
    case atStart => exact ⟨n, _, _, _, rfl, Nat.le_refl _, by rw [Nat.sub_self, upQ_zero]; rfl, hbE, by rw [Nat.sub_self, upQ_zero]; exact hE.more⟩
    case round =>
      obtain ⟨q, a', c', vs, rfl, hq, rfl, hbel, hout⟩ := hrel
      have HOUT := Lib.hid hout
      have HV : Hid (vs.length = (upQ f n n (n - q)).length) := Lib.hid (by rw [hout.len, List.length_map])
      clear hout hE hbE
      by_cases hq0 : q = 0
      · subst hq0
        go_wp2_with fail
        go_ret
        exact ⟨a', c', vs, rfl, HOUT.out, hbel⟩
      · have hq1 : 1 ≤ q := by omega
        have hq1' : (1 : Int) ≤ (q : Int) := by omega
        have hrd := hrd0.below (hbel.mono hB)
        have hupn := upQ_le f n n (n - q + 1)
        rw [upQ_succ f n n (n - q) (by omega), List.length_append, show n - 1 - (n - q) = q - 1 from by omega] at hupn
        have hpl : (pieceQ f n (q - 1)).length = (allQ f (n - q) q).length := by unfold pieceQ; rw [List.length_map, show q - 1 + 1 = q from by omega]
        rw [hpl] at hupn
        have HUP : Hid ((upQ f n n (n - q)).length + (allQ f (n - q) q).length ≤ 400) := Lib.hid (Nat.le_trans hupn HALL.out)
        clear hupn hpl
        obtain ⟨G, hG⟩ : ∃ G, G = H ++ [(q : Int)] := ⟨_, rfl⟩
        have HGL : Hid (G.length + f ≤ 60) := Lib.hid (by rw [hG]; simp; omega)
        have HG := Lib.hid hG
        clear hG hq0
        have hcast : ((n - q : Nat) : Int) = (n : Int) - (q : Int) := by omega
        go_wp2_with (first
          | (at_builtin; refine wpList_append_o _ rfl (.tmp 23) (.tmp 34) 43 rfl w.heap.size wr.heap.size 30 i1 (.slice none 0 0) 24 Try.underlying43 hj hy0 hy1 hy2 rfl _ vs rfl (HOUT.out.outer.below hb35) w5.heap.size a5 (allQ f (n - q) q).length c5 vsx rfl HX.out.outer.rd (by rw [HX.out.len, List.length_map]) HX.out.one (by rw [HV.out]; unfold maxLen; have := HUP.out; omega) (by rw [HV.out]; have := HUP.out; omega) (by have := hbel.size; have := hb35.size; omega) ?_; intro v' w6 ho6 hg6 hat6; have hall := (HOUT.out.below hb35).appendAll HX.out hb4.size (Nat.le_trans hbel.size hb4.size) ho6 hg6 hat6; have hb6 : Below w.heap.size w w6 := (hbel.trans (hb35.mono hbel.size)).grown hg6 (by have := hbel.size; have := hb35.size; omega) HOUT.out.outer.base; clear ho6 hg6 hat6; rw [HG.out, up_next H f n _ q hq1 hq] at hall; obtain ⟨a6, c6, rfl⟩ := hall.form; rw [List.length_map] at hall ⊢)
          | (go_at_call 39; have ihh := ih (n - q) a4 c4 _ G q _ (by omega) HGL.out (by omega) HO4.out.rd (Nat.le_refl _); rw [hcast] at ihh; refine ihh.mono ?_; rintro e w5 ⟨a5, c5, vsx, rfl, hx5, hb5⟩; clear ihh; have hb35 : Below wr.heap.size wr w5 := hb4.trans (hb5.mono hb4.size); have HX := Lib.hid hx5; clear hx5)
          | (at_builtin; refine wpList_append_o _ rfl (.tmp 26) (.tmp 28) 30 rfl wr.heap.size w3.heap.size 3 i0 (.int .i64 0) 8 Try.underlying30 hi hz0 hz1 hz2 rfl _ (ints H) rfl (HO3.out.alloc _) (w3.heap.size + 1) (some ⟨w3.heap.size, 0, none⟩) 1 1 [.int .i64 (q : Int)] rfl (Rd.one w3 _ _) rfl (by simp; rfl) (by simp; unfold maxLen; omega) (by simp; omega) (by rw [World.size_alloc]; have := hb3.size; omega) ?_; intro v' w4 ho4 hg4 hat4; clear hat4; have hb4 : Below wr.heap.size wr w4 := below_push hb3 (Nat.le_refl _) hg4 HO3.out.base; clear hg4; rw [show ints H ++ [Value.int .i64 (q : Int)] = ints G from by rw [HG.out]; simp [ints]] at ho4; obtain ⟨a4, c4, rfl⟩ := ho4.form; rw [List.length_map] at ho4 ⊢; have HO4 := Lib.hid ho4; clear ho4)
          | (at_builtin; refine wpList_append_o _ rfl (.tmp 24) (.tmp 25) 30 rfl wr.heap.size (wr.heap.size + 1) 3 i0 (.int .i64 0) 8 Try.underlying30 hi hz0 hz1 hz2 rfl _ [] rfl (Own.empty wr 3) B a H.length c (ints H) rfl (hrd.alloc (Nat.le_trans hB hbel.size) _) (by simp) (ints_one H) (by simp; unfold maxLen; omega) (by simp; omega) (by simp) ?_; intro v' w3 ho3 hg3 hat3; rw [List.nil_append] at ho3; clear hat3; obtain ⟨a3, c3, rfl⟩ := ho3.form; rw [List.length_map] at ho3 ⊢; have hb3 : Below wr.heap.size wr w3 := below_push (Below.refl _ _) (Nat.le_refl _) hg3 (fun g hg => by cases hg; exact Nat.le_refl _); clear hg3; have HO3 := Lib.hid ho3; clear ho3))
        go_roundw
        case rel =>
          exact ⟨q - 1, a6, c6, _, by rw [show ((q - 1 : Nat) : Int) = (q : Int) - 1 from by omega], by omega, rfl, hb6, hall⟩
        case measure => simp [intOf]; omega

theorem slist_lists : ∀ f : Nat, f ≤ 16 → ListsTo f := by
  intro f
  induction f with
  | zero =>
    intro _ n a c B H most w hn hH hm hrd hB
    exact slist_base 0 n (by omega) a c B H most w (by omega) hrd hB
  | succ f ih => intro hf; exact slist_step f (by omega) (ih (by omega))
end Go.Proofs.Ytgkghebjaedjmaa
namespace Go.Proofs.Ytgkghebjaedjmaa
open Go.RowKit NP
set_option maxRecDepth 8000
set_option linter.unusedVariables false
set_option linter.unusedSimpArgs false
theorem filter_VL {xs : List VL} {l : List (List Int)} (h : xs.map (·.1) = l) (H0 : List Int → Bool) : (xs.filter (fun x => H0 x.1)).map (·.1) = l.filter H0 := by
  rw [← h, List.filter_map]; rfl
end Go.Proofs.Ytgkghebjaedjmaa
namespace Go.Proofs.Ytgkghebjaedjmaa
open Go.RowKit NP
set_option maxRecDepth 8000
set_option linter.unusedVariables false
set_option linter.unusedSimpArgs false
def apF (n : Int) : List (List Int) := if 0 ≤ n ∧ n ≤ 12 then allQ n.toNat n.toNat n.toNat else []
theorem apF_yes {n : Nat} (h : n ≤ 12) : apF (n : Int) = allQ n n n := by unfold apF; rw [if_pos (by omega)]; simp
theorem apF_no {n : Int} (h : ¬ (0 ≤ n ∧ n ≤ 12)) : apF n = [] := by unfold apF; rw [if_neg h]

end Go.Proofs.Ytgkghebjaedjmaa
namespace Go.Proofs.Ytgkghebjaedjmaa
open Go.RowKit NP
set_option maxRecDepth 8000
set_option linter.unusedVariables false
set_option linter.unusedSimpArgs false
theorem cntQQ : (List.range 13).all (fun k => decide (cntLL (allQ k k k) ≤ 2000)) = true := by decide +kernel
theorem apF_cnt (n : Int) : cntLL (apF n) ≤ 2000 := by
  unfold apF
  split
  · have := List.all_eq_true.1 cntQQ n.toNat (by simp; omega)
    simpa using this
  · simp [cntLL]
theorem apF_few2 (n : Int) : (apF n).length ≤ 1000 := by
  unfold apF
  split
  · exact allQ_len (by omega)
  · simp
theorem apF_shortTab : (List.range 13).all (fun k => (allQ k k k).all fun X => decide (X.length ≤ 16)) = true := by decide +kernel
theorem apF_short2 (n : Int) : ∀ X ∈ apF n, X.length ≤ 4611686018427387904 := by
  intro X hX
  unfold apF at hX
  split at hX
  · have h1 := List.all_eq_true.1 apF_shortTab n.toNat (by simp; omega)
    have h2 := List.all_eq_true.1 h1 X hX
    simp at h2
    omega
  · simp at hX
end Go.Proofs.Ytgkghebjaedjmaa
