/-
  Walks of the program: all parts with a sum, those of which something holds.
-/
import Derived.Test.YtcjnmconehfbgaaW58
import Derived.Test.YtcjnmconehfbgaaLL
import Derived.Test.YtcjnmconehfbgaaW3
import Derived.Test.YtcjnmconehfbgaaIsK
namespace Go.Proofs.Ytcjnmconehfbgaa
open Go.RowKit Go.Shelf NP
set_option maxRecDepth 8000
set_option linter.unusedVariables false
set_option linter.unusedSimpArgs false
attribute [local go_sem] Oper.semAt_some
section
variable {w w' : World} {lo hi : Nat} {eo e : TypeId} {v : Value} {vs : List Value}
theorem Own.stay (h : Own w lo hi e v vs) (hs : w.heap.size ≤ w'.heap.size) (hk : ∀ (g : Nat) (cs : Array Value), w.heap[g]? = some (.cells cs e (0, 0)) → w'.heap[g]? = w.heap[g]?) : Own w' lo hi e v vs :=
  h.keep hs fun g hg => by
    rcases h.row.2 with ⟨h1, _⟩ | ⟨g', cap, cur, h1, _, hb, _⟩
    · rw [h1] at hg; simp [Value.ownBlock] at hg
    · rw [h1] at hg
      simp [Value.ownBlock] at hg
      subst hg
      exact hk _ _ hb
theorem OwnLL.stay {LL : List (List Int)} (h : OwnLL w lo hi eo e v vs LL) (hs : w.heap.size ≤ w'.heap.size) (hk : ∀ (g : Nat) (cs : Array Value), w.heap[g]? = some (.cells cs eo (0, 0)) → w'.heap[g]? = w.heap[g]?) (hk2 : ∀ (g : Nat) (cs : Array Value), w.heap[g]? = some (.cells cs e (0, 0)) → w'.heap[g]? = w.heap[g]?) : OwnLL w' lo hi eo e v vs LL :=
  ⟨h.outer.stay hs hk, h.len, fun k u L hu hL => (h.inner k u L hu hL).stay hs hk2, h.apartO, h.apart⟩
end
theorem opIn_val {F : Fence} {n : Nat} {P : Program} {o : Oper} {a : Act} {w w' : World} {K : Act → World → Prop} {Q : Exit → Act → World → Prop} {v : Value} (hab : o.about P w a.eval = none)
    (h : (o.semAt F.round a.eval).run P w = .ok (.value v) w') (hK : K (a.put o.dst v) w') : o.wpIn F n P a w K Q :=
  ⟨fun f hf => (by rw [hab] at hf; cases hf), (by rw [h]; exact hK)⟩
theorem opIn_loadv {F : Fence} {n : Nat} {P : Program} {o : Oper} {a : Act} {w w' : World} {K : Act → World → Prop} {Q : Exit → Act → World → Prop} {v : Value} (ty : TypeId) (x : Operand) (ho : o.op = .load ty x) (p : Addr) (hx : a.eval x = .pointer (some p))
    (hrun : (loadVar ty p).run P w = .ok v w') (hK : K (a.put o.dst v) w') : o.wpIn F n P a w K Q :=
  opIn_val (by simp [Oper.about, ho]) (by
    rw [Oper.semAt_plain F _ _ (by rw [ho]; intro c hc; cases hc)]
    simp only [execOp, ho, hx, Instr.loadAt, Instr.sureAddr, Sem.run_bind, Sem.run_pure, Result.andThen_ok, hrun]) hK
def IW (w : World) (H : VL → Bool) (fv : Value) (pre : List VL) (W : World) : Prop :=
  (∃ v vs, Blk W (w.heap.size + 1) 36 #[v] ∧ OwnLL W (w.heap.size + 2) W.heap.size 22 3 v vs ((pre.filter H).map (·.1))) ∧ Blk W w.heap.size 91 #[fv] ∧ Below w.heap.size w W
theorem iw_from (w : World) (H : VL → Bool) (fv : Value) (B : Nat) (hB : w.heap.size ≤ B) : OwnFrom B (IW w H fv) := by
  rintro s W W' row ⟨⟨v, vs, h1, h2⟩, h3, h4⟩ hg hr
  have ne : ∀ (g : Nat) (cs : Array Value) (t : TypeId), W.heap[g]? = some (.cells cs t (0, 0)) → some g ≠ row := fun g cs t hc e => by
    obtain ⟨_, o, ho, hc'⟩ := hr g e.symm
    rw [hc] at ho; injection ho with ho; subst ho; simp [Obj.isCells] at hc'
  have kp : ∀ (g : Nat) (cs : Array Value) (t : TypeId), W.heap[g]? = some (.cells cs t (0, 0)) → W'.heap[g]? = W.heap[g]? := fun g cs t hc => hg.block g (Array.getElem?_eq_some_iff.1 hc).1 (ne g cs t hc)
  exact ⟨⟨v, vs, h1.grown hg (ne _ _ _ h1), (h2.stay hg.size (fun g cs hc => kp g cs _ hc) (fun g cs hc => kp g cs _ hc)).more⟩, h3.grown hg (ne _ _ _ h3), h4.grown hg h4.size (fun k e => Nat.le_trans hB (hr k e).1)⟩
theorem iw_abt (w : World) (H : VL → Bool) (fv : Value) (B : Nat) (hB : w.heap.size ≤ B) : AbT B 54 (IW w H fv) := by
  refine ⟨?_, ?_, ?_⟩
  · rintro s W o ⟨⟨v, vs, h1, h2⟩, h3, h4⟩
    have kp : ∀ (g : Nat) (cs : Array Value) (t : TypeId), W.heap[g]? = some (.cells cs t (0, 0)) → (W.alloc o).heap[g]? = W.heap[g]? := fun g cs t hc => Below.heap_alloc W o g (Array.getElem?_eq_some_iff.1 hc).1
    exact ⟨⟨v, vs, h1.alloc o, (h2.stay (by simp) (fun g cs hc => kp g cs _ hc) (fun g cs hc => kp g cs _ hc)).more⟩, h3.alloc o, h4.alloc h4.size o⟩
  · rintro s W n ⟨⟨v, vs, h1, h2⟩, h3, h4⟩
    exact ⟨⟨v, vs, h1, (h2.stay (w' := W.drewN n) (Nat.le_refl _) (fun g cs hc => rfl) (fun g cs hc => rfl)).more⟩, h3, h4.trans ((Dr.n W n).below _)⟩
  · rintro s W b i u cs fr ⟨⟨v, vs, h1, h2⟩, h3, h4⟩ hb hc
    have ne : ∀ (g : Nat) (cs' : Array Value) (t : TypeId), t ≠ 54 → W.heap[g]? = some (.cells cs' t (0, 0)) → g ≠ b := fun g cs' t ht hg e => by
      subst e; rw [hc] at hg; injection hg with hg; injection hg with _ hg _; exact ht hg.symm
    have kp : ∀ (g : Nat) (cs' : Array Value) (t : TypeId), t ≠ 54 → W.heap[g]? = some (.cells cs' t (0, 0)) → (W.setCell ⟨b, i, none⟩ u).heap[g]? = W.heap[g]? := fun g cs' t ht hg => Below.heap_setCell W ⟨b, i, none⟩ u g (ne g cs' t ht hg)
    exact ⟨⟨v, vs, h1.off (ne _ _ _ (by decide) h1) _, (h2.stay (by simp [World.setCell]) (fun g cs hc => kp g cs _ (by decide) hc) (fun g cs hc => kp g cs _ (by decide) hc)).more⟩, h3.off (ne _ _ _ (by decide) h3) _, h4.setCell (p := ⟨b, i, none⟩) (Nat.le_trans hB hb) u⟩

theorem iw_below {w : World} {H : VL → Bool} {fv : Value} {pre : List VL} {W W' : World} (h : IW w H fv pre W) (hb : Below W.heap.size W W') : IW w H fv pre W' := by
  obtain ⟨⟨v, vs, h1, h2⟩, h3, h4⟩ := h
  exact ⟨⟨v, vs, h1.below hb h1.lt, (h2.below hb).more⟩, h3.below hb h3.lt, h4.trans (hb.mono h4.size)⟩
theorem ko_below {W W' : World} (hb : Below W.heap.size W W') : KeepsOthers W W' := ⟨hb.size, fun j o hj _ => (hb.block j (Array.getElem?_eq_some_iff.1 hj).1).trans hj⟩
theorem T_ints2 : (Try.prog.info? 22).map (fun i => (i.zero, i.size, i.bytes)) = some (some (.slice none 0 0), 1, 24) := by kernel_rfl
theorem opIn_append {F : Fence} {n : Nat} {P : Program} {o : Oper} {a : Act} {w w' : World} {K : Act → World → Prop} {Q : Exit → Act → World → Prop} {v v' : Value} {A : Option Addr} {m c : Nat} (s x : Operand) (t : TypeId)
    (ho : o.op = .call { callee := .builtin .append, args := #[s, x], argTypes := #[t, t] }) (hs : a.eval s = v) (hx : a.eval x = .slice A m c)
    (hrun : (Builtin.append_ #[t, t] o.type #[v, .slice A m c]).run P w = .ok v' w') (hK : K (a.put o.dst v') w') : o.wpIn F n P a w K Q :=
  opIn_val (by simp [Oper.about, ho, resolve, Target.leads, Sem.run_pure]) (by
    rw [Oper.semAt_plain F _ _ (by rw [ho]; intro c hc; cases hc)]
    simp [execOp, ho, resolve, invoke, builtin, hs, hx, hrun, Result.andThen]) hK
theorem opIn_store {F : Fence} {n : Nat} {P : Program} {o : Oper} {a : Act} {w w' : World} {K : Act → World → Prop} {Q : Exit → Act → World → Prop} (ty : TypeId) (x y : Operand)
    (ho : o.op = .store ty x y) (p : Addr) (hx : a.eval x = .pointer (some p)) (hrun : (storeVar ty p (a.eval y)).run P w = .ok () w') (hK : K (a.put o.dst undef) w') : o.wpIn F n P a w K Q :=
  ⟨fun f hf => (by simp [Oper.about, ho] at hf), (by
    rw [Oper.semAt_plain F _ _ (by rw [ho]; intro c hc; cases hc)]
    simp only [execOp, ho, hx, Instr.storeAt, Instr.sureAddr, Sem.run_bind, Sem.run_pure, Result.andThen_ok, hrun]
    exact hK)⟩
theorem allQ_few : (List.range 17).all (fun k => decide ((allQ k k k).length ≤ 1000)) = true := by decide +kernel
theorem allQ_len {k : Nat} (hk : k ≤ 16) : (allQ k k k).length ≤ 1000 := by
  have := List.all_eq_true.1 allQ_few k (by simp; omega)
  simpa using this
theorem round_end {w W W3 W4 : World} {H : VL → Bool} {fv : Value} {pre : List VL} {x : VL} {v v' : Value} {vs : List Value} {u : Option Addr} {lu hiu : Nat}
    (hLL : OwnLL W (w.heap.size + 2) W.heap.size 22 3 v vs ((pre.filter H).map (·.1))) (hb5 : Blk W (w.heap.size + 1) 36 #[v]) (hb3 : Blk W w.heap.size 91 #[fv]) (hB : Below w.heap.size w W) (hH : H x = true)
    (hB3 : Below W.heap.size W W3) (hu : Own W3 lu hiu 3 (.slice u x.1.length x.1.length) (ints x.1)) (hlu : W.heap.size ≤ lu) (ho4 : Own W4 (w.heap.size + 2) W4.heap.size 22 v' (vs ++ [.slice u x.1.length x.1.length]))
    (hg4 : W3.grownBy W4 v.ownBlock) (hat4 : v'.ownBlock = v.ownBlock ∨ v'.ownBlock = some W3.heap.size) :
    KeepsOthers W (W4.setCell ⟨w.heap.size + 1, 0, none⟩ v') ∧ KpT 54 W (W4.setCell ⟨w.heap.size + 1, 0, none⟩ v') ∧ IW w H fv (pre ++ [x]) (W4.setCell ⟨w.heap.size + 1, 0, none⟩ v') := by
  have hl5 := hb5.lt
  have hbase := hLL.outer.base
  have b3 : Blk W3 (w.heap.size + 1) 36 #[v] := hb5.below hB3 hb5.lt
  have b4 : Blk W4 (w.heap.size + 1) 36 #[v] := b3.grown hg4 (fun e => by have := hbase _ e.symm; omega)
  have f3 : Blk W3 w.heap.size 91 #[fv] := hb3.below hB3 hb3.lt
  have f4 : Blk W4 w.heap.size 91 #[fv] := f3.grown hg4 (fun e => by have := hbase _ e.symm; omega)
  have hz : W.heap.size ≤ W4.heap.size := Nat.le_trans hB3.size hg4.size
  have hk : ∀ j, j < W.heap.size → some j ≠ v.ownBlock → j ≠ w.heap.size + 1 → (W4.setCell ⟨w.heap.size + 1, 0, none⟩ v').heap[j]? = W.heap[j]? := fun j hj h1 h2 =>
    (Below.heap_setCell W4 ⟨w.heap.size + 1, 0, none⟩ v' j h2).trans ((hg4.block j (Nat.lt_of_lt_of_le hj hB3.size) h1).trans (hB3.block j hj))
  have hvb : ∀ g, v.ownBlock = some g → ∃ cs, W.heap[g]? = some (.cells cs 22 (0, 0)) := fun g hg => by
    rcases hLL.outer.row.2 with ⟨h1, _⟩ | ⟨g', cap, cur, h1, _, hb, _⟩
    · rw [h1] at hg; simp [Value.ownBlock] at hg
    · rw [h1] at hg
      simp [Value.ownBlock] at hg
      subst hg
      exact ⟨_, hb⟩
  have hs5 : (W4.setCell ⟨w.heap.size + 1, 0, none⟩ v').heap.size = W4.heap.size := by simp [World.setCell]
  refine ⟨⟨by rw [hs5]; exact hz, fun j o hj ho => (hk j (Array.getElem?_eq_some_iff.1 hj).1 ?_ ?_).trans hj⟩, ⟨by rw [hs5]; exact hz, fun b cs fr hb => (hk b (Array.getElem?_eq_some_iff.1 hb).1 ?_ ?_).trans hb⟩, ?_⟩
  · intro e
    obtain ⟨cs, hc⟩ := hvb j e.symm
    rw [hc] at hj; injection hj with hj; subst hj; simp [Obj.isCells] at ho
  · intro e
    subst e
    rw [show W.heap[w.heap.size + 1]? = _ from hb5] at hj; injection hj with hj; subst hj; simp [Obj.isCells] at ho
  · intro e
    obtain ⟨cs', hc⟩ := hvb b e.symm
    rw [hc] at hb; injection hb with hb; injection hb with _ hb _; exact absurd hb (by decide)
  · intro e
    subst e
    rw [show W.heap[w.heap.size + 1]? = _ from hb5] at hb; injection hb with hb; injection hb with _ hb _; exact absurd hb (by decide)
  · have hne : ∀ (g : Nat) (cs : Array Value) (t : TypeId), t ≠ 36 → W4.heap[g]? = some (.cells cs t (0, 0)) → g ≠ w.heap.size + 1 := fun g cs t ht hg e => by
      subst e
      rw [show W4.heap[w.heap.size + 1]? = _ from b4] at hg; injection hg with hg; injection hg with _ hg _; exact ht hg.symm
    have hLL4 := (hLL.below hB3).append hu hlu (by omega) ho4 hg4 hat4
    have hLL5 := hLL4.stay (w' := W4.setCell ⟨w.heap.size + 1, 0, none⟩ v') (by rw [hs5]; exact Nat.le_refl _) (fun g cs hc => Below.heap_setCell W4 ⟨w.heap.size + 1, 0, none⟩ v' g (hne g cs _ (by decide) hc)) (fun g cs hc => Below.heap_setCell W4 ⟨w.heap.size + 1, 0, none⟩ v' g (hne g cs _ (by decide) hc))
    have hf : ((pre ++ [x]).filter H).map (·.1) = (pre.filter H).map (·.1) ++ [x.1] := by rw [List.filter_append]; simp [hH]
    refine ⟨⟨v', vs ++ [.slice u x.1.length x.1.length], b4.set 0 v', ?_⟩, f4.off (by show w.heap.size ≠ w.heap.size + 1; omega) _, ?_⟩
    · rw [hf]; exact hLL5.more
    · exact ((hB.trans (hB3.mono hB.size)).grown hg4 (Nat.le_trans hB.size hB3.size) (fun g e => by have := hbase g e; omega)).setCell (p := ⟨w.heap.size + 1, 0, none⟩) (by show w.heap.size ≤ w.heap.size + 1; omega) _
def AxW (w : World) (k : Nat) (fv : Value) (x : VL) (a' : Act) (W : World) : Prop := ∃ Bx, w.heap.size + 2 ≤ Bx ∧ Blk W Bx 54 (arr (pad x.1)) ∧
  a' = { tmps := #[.int .i64 k, fv, undef, .pointer (some ⟨w.heap.size, 0, none⟩), .slice none 0 0, .pointer (some ⟨w.heap.size + 1, 0, none⟩), .pointer (some ⟨Bx, 0, none⟩), .int .i64 k, .func (.func 91) #[] #[.pointer (some ⟨w.heap.size + 1 + 1, 0, none⟩)], .agg (arr (pad x.1)), undef, undef, undef, undef, undef, undef, undef, undef, undef], defers := [] }

set_option maxRecDepth 100000 in
set_option maxHeartbeats 4000000 in
theorem partsWhere_any (k : Nat) (hk : k ≤ 16) (fv : Value) (H0 : List Int → Bool) (w : World) (hfv : IsK w fv H0) (H : VL → Bool) (hH0 : ∀ x : VL, H x = H0 x.1) :
    Calls Try.prog 80 #[.int .i64 k, fv] w fun e w' => ∃ (xs : List VL) (a' : Option Addr) (c' : Nat) (vs : List Value), xs.map (·.1) = allQ k k k ∧ e = .returned (.slice a' ((xs.filter H).map (·.1)).length c') ∧ OwnLL w' w.heap.size w'.heap.size 22 3 (.slice a' ((xs.filter H).map (·.1)).length c') vs ((xs.filter H).map (·.1)) ∧ Below w.heap.size w w' := by
  refine (callsIn_wide (n := 6)).1 ?_
  obtain ⟨ff, fp, fc, rfl, he, hh⟩ := hfv
  refine callsIn_of_wp_marks Try.func80 rfl trivial ?_ rfl
  simp only [Try.ntmps80, List.size_toArray, List.length_cons, List.length_nil, Nat.reduceAdd, Nat.reduceSub, Array.replicate_succ, Array.replicate_zero, List.push_toArray, List.append_toArray, List.nil_append, List.cons_append]
  gi_wp2_with ((refine ⟨trivial, ?_⟩; gi_at_call 74; refine (dwith_in Fence.wide _ trivial rfl _ _).mono ?_; rintro e w' ⟨rfl, rfl⟩))
  obtain ⟨W0, hW0⟩ : ∃ W0, (((w.alloc (.cells #[.func (.func ff) fp fc] 91)).alloc (.cells #[.slice none 0 0] 36)).alloc (.cells #[.int .i64 k] 3)) = W0 := ⟨_, rfl⟩
  have hs0 : W0.heap.size = w.heap.size + 3 := by rw [← hW0]; simp
  have hb3 : Blk W0 w.heap.size 91 #[.func (.func ff) fp fc] := by rw [← hW0]; exact ((Blk.new w _ _).alloc _).alloc _
  have hb5 : Blk W0 (w.heap.size + 1) 36 #[.slice none 0 0] := by
    rw [← hW0]
    have e := (Blk.new (w.alloc (.cells #[.func (.func ff) fp fc] 91)) 36 #[.slice none 0 0]).alloc (.cells #[.int .i64 k] 3)
    rw [World.size_alloc] at e
    exact e
  have hbn : W0.cell? ⟨w.heap.size + 1 + 1, 0, none⟩ = some (.int .i64 k) := by
    rw [← hW0]
    have e := Blk.new ((w.alloc (.cells #[.func (.func ff) fp fc] 91)).alloc (.cells #[.slice none 0 0] 36)) 3 #[.int .i64 k]
    rw [World.size_alloc, World.size_alloc] at e
    rw [e.cell 0]
    rfl
  have hB0 : Below w.heap.size w W0 := by rw [← hW0]; exact (((Below.refl _ _).alloc (Nat.le_refl _) _).alloc (by simp) _).alloc (by simp; omega) _
  rw [hW0]
  have hI0 : IW w H (.func (.func ff) fp fc) [] W0 := ⟨⟨_, [], hb5, by rw [show w.heap.size + 2 = w.heap.size + 2 from rfl]; exact (OwnLL.nil W0 (w.heap.size + 2) _ _)⟩, hb3, hB0⟩
  clear hb3 hb5 hB0 hW0
  refine wpIn_range_T 54 rfl (by omega) (gf := 91) (lb := #[.pointer (some ⟨w.heap.size + 1 + 1, 0, none⟩)]) rfl trivial (enters_of Try.func91 (by kernel_rfl) rfl)
    (dwith_seq Fence.wide rfl trivial trivial rfl (6 - 1) k (w.heap.size + 1 + 1) hk W0 (by omega) hbn) (Below.refl _ _) (fun _ => rfl)
    (IW w H (.func (.func ff) fp fc)) (fun _ _ _ => False) (iw_from w H _ _ (by omega)) (fun _ _ _ _ _ h _ _ => h) (iw_abt w H _ _ (by omega)) (fun _ => ⟨fun _ _ _ h => h, fun _ _ _ h => h, fun _ _ _ _ _ _ _ h _ _ => h⟩) hI0
    (AxW w k (.func (.func ff) fp fc)) ?hax ?assign ?body ?done ?stop
  case hax =>
    rintro a' s W W' row ⟨Bx, hBx, hb, rfl⟩ hg hr
    refine ⟨Bx, hBx, hb.grown hg (fun e => ?_), rfl⟩
    obtain ⟨_, o, ho, hc⟩ := hr Bx e.symm
    rw [show W.heap[Bx]? = _ from hb] at ho; injection ho with ho; subst ho; simp [Obj.isCells] at hc
  case assign =>
    intro l pre x W K hi hK
    have hlen : x.1.length ≤ 16 := (valid_bd x.2).2.2.2
    have hi16 : (Try.prog.info? 54).map (·.size) = some (arr (pad x.1)).size := by rw [arr_size, pad_len hlen]; exact T_info35
    have hszx : (arr (pad x.1)).size = (arr (List.replicate 16 0)).size := by rw [arr_size, arr_size, pad_len hlen]; rfl
    have hbz := Blk.new W 54 (arr (List.replicate 16 0))
    have hbw : Below W.heap.size W ((W.alloc (.cells (arr (List.replicate 16 0)) 54)).setRow W.heap.size (arr (pad x.1))) := below_setRow' ((Below.refl _ _).alloc (Nat.le_refl _) _) (Nat.le_refl _) _
    have hlt := hi.1.choose_spec.choose_spec.1.lt
    gi_wp2_with (refine wpListIn_store_row rfl 54 (.tmp 6) (.tmp 9) rfl W.heap.size (arr (pad x.1)) rfl rfl (run_storeVar_row _ W.heap.size 54 54 _ _ hbz hi16 hszx (arr_one _)) ?_)
    exact hK _ _ (ko_below hbw) (KpT.below hbw) (iw_below hi hbw) ⟨W.heap.size, by omega, hbz.row, rfl⟩
  case body =>
    rintro l pre x a' W ⟨⟨v, vs, hb5, hLL⟩, hb3, hB⟩ ⟨Bx, hBx, hbx, rfl⟩ hlen
    have hpl : x.1.length ≤ 16 := (valid_bd x.2).2.2.2
    have hi16 : (Try.prog.info? 54).map (·.size) = some (arr (pad x.1)).size := by rw [arr_size, pad_len hpl]; exact T_info35
    have c3 : W.cell? ⟨w.heap.size, 0, none⟩ = some (.func (.func ff) fp fc) := by rw [hb3.cell 0]; rfl
    have hhx := hh W hB x.1 x.2
    rw [← hH0] at hhx
    have hIW : IW w H (.func (.func ff) fp fc) pre W := ⟨⟨v, vs, hb5, hLL⟩, hb3, hB⟩
    cases hH : H x with
    | false =>
      rw [hH] at hhx
      have hf : (pre ++ [x]).filter H = pre.filter H := by rw [List.filter_append]; simp [hH]
      gi_wp2_with (first
        | (refine wpListIn_load_row rfl 54 (.tmp 6) rfl Bx rfl 54 (arr (pad x.1)) (0, 0) _ hbx Try.underlying54 rfl hi16 ?_)
        | (refine ⟨trivial, ?_⟩; refine (CallsIn.inRound l (callsIn_wide.2 hhx)).mono ?_; rintro e W1 ⟨rfl, hb1⟩))
      refine ⟨ko_below hb1, KpT.below hb1, ?_⟩
      have := iw_below hIW hb1
      unfold IW at this ⊢
      rw [hf]
      exact this
    | true =>
      rw [hH] at hhx
      gi_wp2_with (first
        | (refine wpListIn_load_row rfl 54 (.tmp 6) rfl Bx rfl 54 (arr (pad x.1)) (0, 0) _ hbx Try.underlying54 rfl hi16 ?_)
        | (refine ⟨trivial, ?_⟩; refine (CallsIn.inRound l (callsIn_wide.2 hhx)).mono ?_; rintro e W1 ⟨rfl, hb1⟩))
      have hmx : Try.prog.follows .mixedOrders = true := by kernel_rfl
      obtain ⟨i22, hi22, hq0, hq1, hq2⟩ := info_parts T_ints2
      have hvl : vs.length ≤ 1000 := by
        have h1 := hLL.len
        have h2 := List.length_filter_le H pre
        have h3 := allQ_len hk
        rw [List.length_map] at h1
        omega
      have hIW1 := iw_below hIW hb1
      have hbx1 := hbx.below hb1 hbx.lt
      refine wpIn_region_any hmx ?_
      obtain ⟨y, hy⟩ : ∃ y, W1.drew = y := ⟨_, rfl⟩
      change wpAnyIn _ _ _ _ _ _ _ _ _ (World.drew _)
      rw [hy]
      have hb1y : Below W.heap.size W y := by rw [← hy]; exact hb1.trans ((Dr.n W1 1).below _)
      have hb5y : Blk y (w.heap.size + 1) 36 #[v] := hb5.below hb1y hb5.lt
      have c5y : y.cell? ⟨w.heap.size + 1, 0, none⟩ = some v := by rw [hb5y.cell 0]; rfl
      have hlt5y : w.heap.size + 1 < y.heap.size := hb5y.lt
      have hbxy : Blk y Bx 54 (arr (pad x.1)) := hbx.below hb1y hbx.lt
      have hld := run_loadVar_row y Bx 54 54 (arr (pad x.1)) (0, 0) _ hbxy Try.underlying54 rfl hi16
      refine wpAnyIn_ready (rs := [0, 1]) (by kernel_rfl) (by simp) ?_
      refine AllReadyIn.cons rfl (fun K hK => ?_) ?_
      · skip
        rw [if_pos (by rfl)]
        refine opIn_val (v := v) (w' := y) (by simp [Oper.about]) (by have hc := c5y; go_simp) ?_
        refine hK _ _ ?_
        clear hK K
        try simp only [Act.put, List.setIfInBounds_toArray, List.set_cons_zero, List.set_cons_succ]
        refine wpAnyIn_ready (rs := [1]) (by kernel_rfl) (by simp) ?_
        refine AllReadyIn.cons rfl (fun K hK => ?_) AllReadyIn.nil
        rw [if_pos (by rfl)]
        refine opIn_loadv 54 (.tmp 6) rfl ⟨Bx, 0, none⟩ rfl hld ?_
        refine hK _ _ ?_
        clear hK K
        try simp only [Act.put, List.setIfInBounds_toArray, List.set_cons_zero, List.set_cons_succ]
        refine wpAnyIn_ready (rs := [2]) (by kernel_rfl) (by simp) ?_
        refine AllReadyIn.cons rfl (fun K hK => ?_) AllReadyIn.nil
        rw [if_pos (by rfl)]
        go_simp
        refine ⟨trivial, ?_⟩
        gi_at_call 94
        refine (CallsIn.inRound l (callsIn_wide.2 (list_any x.1 x.2 y))).mono ?_
        rintro e W2 ⟨u, rfl, hu, hb2⟩
        have hB2 := hb1y.trans (hb2.mono hb1y.size)
        have c5b : W2.cell? ⟨w.heap.size + 1, 0, none⟩ = some v := (hb2.cell (p := ⟨w.heap.size + 1, 0, none⟩) hlt5y).trans c5y
        have hu' := hu
        obtain ⟨W3, hW3⟩ : ∃ W3, W2.alloc (.cells #[.slice u x.1.length x.1.length] 22) = W3 := ⟨_, rfl⟩
        have c5c : W3.cell? ⟨w.heap.size + 1, 0, none⟩ = some v := by rw [← hW3]; exact (((Below.refl W2.heap.size W2).alloc (Nat.le_refl _) _).cell (p := ⟨w.heap.size + 1, 0, none⟩) (World.block_lt_of_cell? W2 _ c5b)).trans c5b
        refine hK _ _ ?_
        clear hK K
        try simp only [Act.put, List.setIfInBounds_toArray, List.set_cons_zero, List.set_cons_succ]
        refine wpAnyIn_ready (rs := [3]) (by kernel_rfl) (by simp) ?_
        refine AllReadyIn.cons rfl (fun K hK => ?_) AllReadyIn.nil
        rw [if_pos (by rfl)]
        refine opIn_val (v := .slice (some ⟨W2.heap.size, 0, none⟩) 1 1) (w' := W3) (by simp [Oper.about]) (by rw [← hW3]; go_simp) ?_
        refine hK _ _ ?_
        clear hK K
        try simp only [Act.put, List.setIfInBounds_toArray, List.set_cons_zero, List.set_cons_succ]
        refine wpAnyIn_ready (rs := [4]) (by kernel_rfl) (by simp) ?_
        refine AllReadyIn.cons rfl (fun K hK => ?_) AllReadyIn.nil
        rw [if_pos (by rfl)]
        have hoW3 : Own W3 (w.heap.size + 2) W.heap.size 22 v vs := by rw [← hW3]; exact (hLL.outer.below hB2).alloc _
        have hrW3 : Rd W3 (W2.heap.size + 1) (some ⟨W2.heap.size, 0, none⟩) [.slice u x.1.length x.1.length] := by rw [← hW3]; exact Rd.one W2 _ _
        have hs3 : W3.heap.size = W2.heap.size + 1 := by rw [← hW3]; simp
        have hB3 : Below W.heap.size W W3 := by rw [← hW3]; exact hB2.alloc hB2.size _
        obtain ⟨v', W4, hrun, ho4, hg4, hat4⟩ := run_append_o (P := Try.prog) (m := 1) (c := 1) W3 (w.heap.size + 2) W.heap.size 36 36 22 i22 (.slice none 0 0) 24 Try.underlying36 hi22 hq0 hq1 hq2 rfl hoW3 hrW3 rfl (by simp; rfl) (by unfold maxLen; omega) (by omega) (by have := hb5.lt; have := hB3.size; omega)
        refine opIn_append (.tmp 13) (.tmp 16) 36 rfl rfl rfl hrun ?_
        refine hK _ _ ?_
        clear hK K
        try simp only [Act.put, List.setIfInBounds_toArray, List.set_cons_zero, List.set_cons_succ]
        refine wpAnyIn_ready (rs := [5]) (by kernel_rfl) (by simp) ?_
        refine AllReadyIn.cons rfl (fun K hK => ?_) AllReadyIn.nil
        have b5c : Blk W3 (w.heap.size + 1) 36 #[v] := hb5.below hB3 hb5.lt
        have b5d : Blk W4 (w.heap.size + 1) 36 #[v] := b5c.grown hg4 (fun e => by have := hoW3.base _ e.symm; omega)
        have c5d : W4.cell? ⟨w.heap.size + 1, 0, none⟩ = some v := by rw [b5d.cell 0]; rfl
        have f5d : W4.frozen? ⟨w.heap.size + 1, 0, none⟩ = false := b5d.free 0
        rw [if_pos (by rfl)]
        refine opIn_store 36 (.tmp 5) (.tmp 17) rfl ⟨w.heap.size + 1, 0, none⟩ rfl (w' := W4.setCell ⟨w.heap.size + 1, 0, none⟩ v') (by have hq := c5d; have hq' := f5d; obtain ⟨av, cv, rfl⟩ := ho4.form; go_simp) ?_
        refine hK _ _ ?_
        clear hK K
        try simp only [Act.put, List.setIfInBounds_toArray, List.set_cons_zero, List.set_cons_succ]
        refine wpAnyIn_done (by kernel_rfl) ?_ _
        exact round_end hLL hb5 hb3 hB hH hB3 (by rw [← hW3]; exact hu'.alloc _) hb1y.size ho4 hg4 hat4
      refine AllReadyIn.cons rfl (fun K hK => ?_) AllReadyIn.nil
      rw [if_pos (by rfl)]
      refine opIn_loadv 54 (.tmp 6) rfl ⟨Bx, 0, none⟩ rfl hld ?_
      refine hK _ _ ?_
      clear hK K
      try simp only [Act.put, List.setIfInBounds_toArray, List.set_cons_zero, List.set_cons_succ]
      refine wpAnyIn_ready (rs := [0, 2]) (by kernel_rfl) (by simp) ?_
      refine AllReadyIn.cons rfl (fun K hK => ?_) ?_
      · skip
        rw [if_pos (by rfl)]
        refine opIn_val (v := v) (w' := y) (by simp [Oper.about]) (by have hc := c5y; go_simp) ?_
        refine hK _ _ ?_
        clear hK K
        try simp only [Act.put, List.setIfInBounds_toArray, List.set_cons_zero, List.set_cons_succ]
        refine wpAnyIn_ready (rs := [2]) (by kernel_rfl) (by simp) ?_
        refine AllReadyIn.cons rfl (fun K hK => ?_) AllReadyIn.nil
        rw [if_pos (by rfl)]
        go_simp
        refine ⟨trivial, ?_⟩
        gi_at_call 94
        refine (CallsIn.inRound l (callsIn_wide.2 (list_any x.1 x.2 y))).mono ?_
        rintro e W2 ⟨u, rfl, hu, hb2⟩
        have hB2 := hb1y.trans (hb2.mono hb1y.size)
        have c5b : W2.cell? ⟨w.heap.size + 1, 0, none⟩ = some v := (hb2.cell (p := ⟨w.heap.size + 1, 0, none⟩) hlt5y).trans c5y
        have hu' := hu
        obtain ⟨W3, hW3⟩ : ∃ W3, W2.alloc (.cells #[.slice u x.1.length x.1.length] 22) = W3 := ⟨_, rfl⟩
        have c5c : W3.cell? ⟨w.heap.size + 1, 0, none⟩ = some v := by rw [← hW3]; exact (((Below.refl W2.heap.size W2).alloc (Nat.le_refl _) _).cell (p := ⟨w.heap.size + 1, 0, none⟩) (World.block_lt_of_cell? W2 _ c5b)).trans c5b
        refine hK _ _ ?_
        clear hK K
        try simp only [Act.put, List.setIfInBounds_toArray, List.set_cons_zero, List.set_cons_succ]
        refine wpAnyIn_ready (rs := [3]) (by kernel_rfl) (by simp) ?_
        refine AllReadyIn.cons rfl (fun K hK => ?_) AllReadyIn.nil
        rw [if_pos (by rfl)]
        refine opIn_val (v := .slice (some ⟨W2.heap.size, 0, none⟩) 1 1) (w' := W3) (by simp [Oper.about]) (by rw [← hW3]; go_simp) ?_
        refine hK _ _ ?_
        clear hK K
        try simp only [Act.put, List.setIfInBounds_toArray, List.set_cons_zero, List.set_cons_succ]
        refine wpAnyIn_ready (rs := [4]) (by kernel_rfl) (by simp) ?_
        refine AllReadyIn.cons rfl (fun K hK => ?_) AllReadyIn.nil
        rw [if_pos (by rfl)]
        have hoW3 : Own W3 (w.heap.size + 2) W.heap.size 22 v vs := by rw [← hW3]; exact (hLL.outer.below hB2).alloc _
        have hrW3 : Rd W3 (W2.heap.size + 1) (some ⟨W2.heap.size, 0, none⟩) [.slice u x.1.length x.1.length] := by rw [← hW3]; exact Rd.one W2 _ _
        have hs3 : W3.heap.size = W2.heap.size + 1 := by rw [← hW3]; simp
        have hB3 : Below W.heap.size W W3 := by rw [← hW3]; exact hB2.alloc hB2.size _
        obtain ⟨v', W4, hrun, ho4, hg4, hat4⟩ := run_append_o (P := Try.prog) (m := 1) (c := 1) W3 (w.heap.size + 2) W.heap.size 36 36 22 i22 (.slice none 0 0) 24 Try.underlying36 hi22 hq0 hq1 hq2 rfl hoW3 hrW3 rfl (by simp; rfl) (by unfold maxLen; omega) (by omega) (by have := hb5.lt; have := hB3.size; omega)
        refine opIn_append (.tmp 13) (.tmp 16) 36 rfl rfl rfl hrun ?_
        refine hK _ _ ?_
        clear hK K
        try simp only [Act.put, List.setIfInBounds_toArray, List.set_cons_zero, List.set_cons_succ]
        refine wpAnyIn_ready (rs := [5]) (by kernel_rfl) (by simp) ?_
        refine AllReadyIn.cons rfl (fun K hK => ?_) AllReadyIn.nil
        have b5c : Blk W3 (w.heap.size + 1) 36 #[v] := hb5.below hB3 hb5.lt
        have b5d : Blk W4 (w.heap.size + 1) 36 #[v] := b5c.grown hg4 (fun e => by have := hoW3.base _ e.symm; omega)
        have c5d : W4.cell? ⟨w.heap.size + 1, 0, none⟩ = some v := by rw [b5d.cell 0]; rfl
        have f5d : W4.frozen? ⟨w.heap.size + 1, 0, none⟩ = false := b5d.free 0
        rw [if_pos (by rfl)]
        refine opIn_store 36 (.tmp 5) (.tmp 17) rfl ⟨w.heap.size + 1, 0, none⟩ rfl (w' := W4.setCell ⟨w.heap.size + 1, 0, none⟩ v') (by have hq := c5d; have hq' := f5d; obtain ⟨av, cv, rfl⟩ := ho4.form; go_simp) ?_
        refine hK _ _ ?_
        clear hK K
        try simp only [Act.put, List.setIfInBounds_toArray, List.set_cons_zero, List.set_cons_succ]
        refine wpAnyIn_done (by kernel_rfl) ?_ _
        exact round_end hLL hb5 hb3 hB hH hB3 (by rw [← hW3]; exact hu'.alloc _) hb1y.size ho4 hg4 hat4
      refine AllReadyIn.cons rfl (fun K hK => ?_) AllReadyIn.nil
      rw [if_pos (by rfl)]
      go_simp
      refine ⟨trivial, ?_⟩
      gi_at_call 94
      refine (CallsIn.inRound l (callsIn_wide.2 (list_any x.1 x.2 y))).mono ?_
      rintro e W2 ⟨u, rfl, hu, hb2⟩
      have hB2 := hb1y.trans (hb2.mono hb1y.size)
      have c5b : W2.cell? ⟨w.heap.size + 1, 0, none⟩ = some v := (hb2.cell (p := ⟨w.heap.size + 1, 0, none⟩) hlt5y).trans c5y
      have hu' := hu
      obtain ⟨W3, hW3⟩ : ∃ W3, W2.alloc (.cells #[.slice u x.1.length x.1.length] 22) = W3 := ⟨_, rfl⟩
      have c5c : W3.cell? ⟨w.heap.size + 1, 0, none⟩ = some v := by rw [← hW3]; exact (((Below.refl W2.heap.size W2).alloc (Nat.le_refl _) _).cell (p := ⟨w.heap.size + 1, 0, none⟩) (World.block_lt_of_cell? W2 _ c5b)).trans c5b
      refine hK _ _ ?_
      clear hK K
      try simp only [Act.put, List.setIfInBounds_toArray, List.set_cons_zero, List.set_cons_succ]
      refine wpAnyIn_ready (rs := [0, 3]) (by kernel_rfl) (by simp) ?_
      refine AllReadyIn.cons rfl (fun K hK => ?_) ?_
      · skip
        rw [if_pos (by rfl)]
        refine opIn_val (v := v) (w' := W2) (by simp [Oper.about]) (by have hc := c5b; go_simp) ?_
        refine hK _ _ ?_
        clear hK K
        try simp only [Act.put, List.setIfInBounds_toArray, List.set_cons_zero, List.set_cons_succ]
        refine wpAnyIn_ready (rs := [3]) (by kernel_rfl) (by simp) ?_
        refine AllReadyIn.cons rfl (fun K hK => ?_) AllReadyIn.nil
        rw [if_pos (by rfl)]
        refine opIn_val (v := .slice (some ⟨W2.heap.size, 0, none⟩) 1 1) (w' := W3) (by simp [Oper.about]) (by rw [← hW3]; go_simp) ?_
        refine hK _ _ ?_
        clear hK K
        try simp only [Act.put, List.setIfInBounds_toArray, List.set_cons_zero, List.set_cons_succ]
        refine wpAnyIn_ready (rs := [4]) (by kernel_rfl) (by simp) ?_
        refine AllReadyIn.cons rfl (fun K hK => ?_) AllReadyIn.nil
        rw [if_pos (by rfl)]
        have hoW3 : Own W3 (w.heap.size + 2) W.heap.size 22 v vs := by rw [← hW3]; exact (hLL.outer.below hB2).alloc _
        have hrW3 : Rd W3 (W2.heap.size + 1) (some ⟨W2.heap.size, 0, none⟩) [.slice u x.1.length x.1.length] := by rw [← hW3]; exact Rd.one W2 _ _
        have hs3 : W3.heap.size = W2.heap.size + 1 := by rw [← hW3]; simp
        have hB3 : Below W.heap.size W W3 := by rw [← hW3]; exact hB2.alloc hB2.size _
        obtain ⟨v', W4, hrun, ho4, hg4, hat4⟩ := run_append_o (P := Try.prog) (m := 1) (c := 1) W3 (w.heap.size + 2) W.heap.size 36 36 22 i22 (.slice none 0 0) 24 Try.underlying36 hi22 hq0 hq1 hq2 rfl hoW3 hrW3 rfl (by simp; rfl) (by unfold maxLen; omega) (by omega) (by have := hb5.lt; have := hB3.size; omega)
        refine opIn_append (.tmp 13) (.tmp 16) 36 rfl rfl rfl hrun ?_
        refine hK _ _ ?_
        clear hK K
        try simp only [Act.put, List.setIfInBounds_toArray, List.set_cons_zero, List.set_cons_succ]
        refine wpAnyIn_ready (rs := [5]) (by kernel_rfl) (by simp) ?_
        refine AllReadyIn.cons rfl (fun K hK => ?_) AllReadyIn.nil
        have b5c : Blk W3 (w.heap.size + 1) 36 #[v] := hb5.below hB3 hb5.lt
        have b5d : Blk W4 (w.heap.size + 1) 36 #[v] := b5c.grown hg4 (fun e => by have := hoW3.base _ e.symm; omega)
        have c5d : W4.cell? ⟨w.heap.size + 1, 0, none⟩ = some v := by rw [b5d.cell 0]; rfl
        have f5d : W4.frozen? ⟨w.heap.size + 1, 0, none⟩ = false := b5d.free 0
        rw [if_pos (by rfl)]
        refine opIn_store 36 (.tmp 5) (.tmp 17) rfl ⟨w.heap.size + 1, 0, none⟩ rfl (w' := W4.setCell ⟨w.heap.size + 1, 0, none⟩ v') (by have hq := c5d; have hq' := f5d; obtain ⟨av, cv, rfl⟩ := ho4.form; go_simp) ?_
        refine hK _ _ ?_
        clear hK K
        try simp only [Act.put, List.setIfInBounds_toArray, List.set_cons_zero, List.set_cons_succ]
        refine wpAnyIn_done (by kernel_rfl) ?_ _
        exact round_end hLL hb5 hb3 hB hH hB3 (by rw [← hW3]; exact hu'.alloc _) hb1y.size ho4 hg4 hat4
      refine AllReadyIn.cons rfl (fun K hK => ?_) AllReadyIn.nil
      rw [if_pos (by rfl)]
      refine opIn_val (v := .slice (some ⟨W2.heap.size, 0, none⟩) 1 1) (w' := W3) (by simp [Oper.about]) (by rw [← hW3]; go_simp) ?_
      refine hK _ _ ?_
      clear hK K
      try simp only [Act.put, List.setIfInBounds_toArray, List.set_cons_zero, List.set_cons_succ]
      refine wpAnyIn_ready (rs := [0]) (by kernel_rfl) (by simp) ?_
      refine AllReadyIn.cons rfl (fun K hK => ?_) AllReadyIn.nil
      rw [if_pos (by rfl)]
      refine opIn_val (v := v) (w' := W3) (by simp [Oper.about]) (by have hc := c5c; go_simp) ?_
      refine hK _ _ ?_
      clear hK K
      try simp only [Act.put, List.setIfInBounds_toArray, List.set_cons_zero, List.set_cons_succ]
      refine wpAnyIn_ready (rs := [4]) (by kernel_rfl) (by simp) ?_
      refine AllReadyIn.cons rfl (fun K hK => ?_) AllReadyIn.nil
      rw [if_pos (by rfl)]
      have hoW3 : Own W3 (w.heap.size + 2) W.heap.size 22 v vs := by rw [← hW3]; exact (hLL.outer.below hB2).alloc _
      have hrW3 : Rd W3 (W2.heap.size + 1) (some ⟨W2.heap.size, 0, none⟩) [.slice u x.1.length x.1.length] := by rw [← hW3]; exact Rd.one W2 _ _
      have hs3 : W3.heap.size = W2.heap.size + 1 := by rw [← hW3]; simp
      have hB3 : Below W.heap.size W W3 := by rw [← hW3]; exact hB2.alloc hB2.size _
      obtain ⟨v', W4, hrun, ho4, hg4, hat4⟩ := run_append_o (P := Try.prog) (m := 1) (c := 1) W3 (w.heap.size + 2) W.heap.size 36 36 22 i22 (.slice none 0 0) 24 Try.underlying36 hi22 hq0 hq1 hq2 rfl hoW3 hrW3 rfl (by simp; rfl) (by unfold maxLen; omega) (by omega) (by have := hb5.lt; have := hB3.size; omega)
      refine opIn_append (.tmp 13) (.tmp 16) 36 rfl rfl rfl hrun ?_
      refine hK _ _ ?_
      clear hK K
      try simp only [Act.put, List.setIfInBounds_toArray, List.set_cons_zero, List.set_cons_succ]
      refine wpAnyIn_ready (rs := [5]) (by kernel_rfl) (by simp) ?_
      refine AllReadyIn.cons rfl (fun K hK => ?_) AllReadyIn.nil
      have b5c : Blk W3 (w.heap.size + 1) 36 #[v] := hb5.below hB3 hb5.lt
      have b5d : Blk W4 (w.heap.size + 1) 36 #[v] := b5c.grown hg4 (fun e => by have := hoW3.base _ e.symm; omega)
      have c5d : W4.cell? ⟨w.heap.size + 1, 0, none⟩ = some v := by rw [b5d.cell 0]; rfl
      have f5d : W4.frozen? ⟨w.heap.size + 1, 0, none⟩ = false := b5d.free 0
      rw [if_pos (by rfl)]
      refine opIn_store 36 (.tmp 5) (.tmp 17) rfl ⟨w.heap.size + 1, 0, none⟩ rfl (w' := W4.setCell ⟨w.heap.size + 1, 0, none⟩ v') (by have hq := c5d; have hq' := f5d; obtain ⟨av, cv, rfl⟩ := ho4.form; go_simp) ?_
      refine hK _ _ ?_
      clear hK K
      try simp only [Act.put, List.setIfInBounds_toArray, List.set_cons_zero, List.set_cons_succ]
      refine wpAnyIn_done (by kernel_rfl) ?_ _
      exact round_end hLL hb5 hb3 hB hH hB3 (by rw [← hW3]; exact hu'.alloc _) hb1y.size ho4 hg4 hat4

  case done =>
    rintro D ys W hD hS hIW hK
    clear hH0
    have hIW2 := (iw_from w H (.func (.func ff) fp fc) w.heap.size (Nat.le_refl _)).putObj (.deferred none) hIW (by omega) hK rfl
    obtain ⟨⟨v, vs, hb5, hLL⟩, hb3, hB⟩ := hIW
    obtain ⟨⟨v2, vs2, hb52, hLL2⟩, -, hB2⟩ := hIW2
    have c5 : W.cell? ⟨w.heap.size + 1, 0, none⟩ = some v := by rw [hb5.cell 0]; rfl
    have hvv : v2 = v := by
      have hne : w.heap.size + 1 ≠ D := by rintro rfl; rw [show W.heap[w.heap.size + 1]? = _ from hb5] at hK; cases hK
      have e := (World.putObj_heap_other (w := W) (o := .deferred none) hne).symm.trans (show (W.putObj D (.deferred none)).heap[w.heap.size + 1]? = _ from hb52)
      rw [show W.heap[w.heap.size + 1]? = _ from hb5] at e
      injection e with e
      injection e with e _ _
      injection e with e
      simpa using e.symm
    subst hvv
    obtain ⟨av, cv, rfl⟩ := hLL.form
    gi_wp2
    refine ⟨by simp, .inl ⟨_, _, rfl, run_takeDeferred hK, ?_⟩⟩
    refine ⟨_, results_tmp rfl _ _ _, ys, av, cv, vs2, hS, by simp, hLL2.lower (by omega), hB2⟩
  case stop =>
    rintro D c pre W _ _ h _
    exact h.elim
end Go.Proofs.Ytcjnmconehfbgaa
