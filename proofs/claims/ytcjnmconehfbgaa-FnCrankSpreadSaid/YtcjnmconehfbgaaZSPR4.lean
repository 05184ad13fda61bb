/-
  Walks of the program: all parts with a sum, those of which something holds. A region that draws its order, of whose first operations each yields the same value in every world of a kind: they may be carried out in their text's order. Walks of the program: how many diagrams with a sum have a measure that leaves each remainder. Plain mathematics of summands: they are bits (an end or not behind each but the last), turned, linked, opposite. No Go text. Plain mathematics of summands: the answers of the functions as closed forms. No Go text. Plain mathematics: falling numbers are told by how often each comes; parts written from a tally. No Go text.
-/
import Derived.Test.YtcjnmconehfbgaaZSPR1
import Derived.Test.YtcjnmconehfbgaaZSPR2
import Derived.Test.YtcjnmconehfbgaaZSPR3
import Derived.OrdersIn
namespace Go.Proofs.Ytcjnmconehfbgaa
open Go.RowKit Go.Shelf NP
set_option maxRecDepth 8000
set_option linter.unusedVariables false
set_option linter.unusedSimpArgs false
attribute [local go_sem] Oper.semAt_some
section
variable {w w' : World} {lo hi : Nat} {eo e : TypeId} {v : Value} {vs : List Value}
theorem Own.stay (h : Own w lo hi e v vs) (hs : w.heap.size ≤ w'.heap.size) (hk : ∀ (g : Nat) (cs : Array Value), w.heap[g]? = some (.cells cs e (0, 0)) → w'.heap[g]? = w.heap[g]?) : Own w' lo hi e v vs :=
  h.keep hs fun g hg => by
    rcases h.row.2 with ⟨h1, _⟩ | ⟨g', cap, cur, h1, _, hb, _⟩
    · rw [h1] at hg; simp [Value.ownBlock] at hg
    · rw [h1] at hg
      simp [Value.ownBlock] at hg
      subst hg
      exact hk _ _ hb
theorem OwnLL.stay {LL : List (List Int)} (h : OwnLL w lo hi eo e v vs LL) (hs : w.heap.size ≤ w'.heap.size) (hk : ∀ (g : Nat) (cs : Array Value), w.heap[g]? = some (.cells cs eo (0, 0)) → w'.heap[g]? = w.heap[g]?) (hk2 : ∀ (g : Nat) (cs : Array Value), w.heap[g]? = some (.cells cs e (0, 0)) → w'.heap[g]? = w.heap[g]?) : OwnLL w' lo hi eo e v vs LL :=
  ⟨h.outer.stay hs hk, h.len, fun k u L hu hL => (h.inner k u L hu hL).stay hs hk2, h.apartO, h.apart⟩
end
theorem opIn_val {F : Fence} {n : Nat} {P : Program} {o : Oper} {a : Act} {w w' : World} {K : Act → World → Prop} {Q : Exit → Act → World → Prop} {v : Value} (hab : o.about P w a.eval = none)
    (h : (o.semAt F.round a.eval).run P w = .ok (.value v) w') (hK : K (a.put o.dst v) w') : o.wpIn F n P a w K Q :=
  ⟨fun f hf => (by rw [hab] at hf; cases hf), (by rw [h]; exact hK)⟩
theorem opIn_loadv {F : Fence} {n : Nat} {P : Program} {o : Oper} {a : Act} {w w' : World} {K : Act → World → Prop} {Q : Exit → Act → World → Prop} {v : Value} (ty : TypeId) (x : Operand) (ho : o.op = .load ty x) (p : Addr) (hx : a.eval x = .pointer (some p))
    (hrun : (loadVar ty p).run P w = .ok v w') (hK : K (a.put o.dst v) w') : o.wpIn F n P a w K Q :=
  opIn_val (by simp [Oper.about, ho]) (by
    rw [Oper.semAt_plain F _ _ (by rw [ho]; intro c hc; cases hc)]
    simp only [execOp, ho, hx, Instr.loadAt, Instr.sureAddr, Sem.run_bind, Sem.run_pure, Result.andThen_ok, hrun]) hK
def IW (w : World) (H : VL → Bool) (fv : Value) (pre : List VL) (W : World) : Prop :=
  (∃ v vs, Blk W (w.heap.size + 1) 36 #[v] ∧ OwnLL W (w.heap.size + 2) W.heap.size 22 3 v vs ((pre.filter H).map (·.1))) ∧ Blk W w.heap.size 91 #[fv] ∧ Below w.heap.size w W
theorem iw_from (w : World) (H : VL → Bool) (fv : Value) (B : Nat) (hB : w.heap.size ≤ B) : OwnFrom B (IW w H fv) := by
  rintro s W W' row ⟨⟨v, vs, h1, h2⟩, h3, h4⟩ hg hr
  have ne : ∀ (g : Nat) (cs : Array Value) (t : TypeId), W.heap[g]? = some (.cells cs t (0, 0)) → some g ≠ row := fun g cs t hc e => by
    obtain ⟨_, o, ho, hc'⟩ := hr g e.symm
    rw [hc] at ho; injection ho with ho; subst ho; simp [Obj.isCells] at hc'
  have kp : ∀ (g : Nat) (cs : Array Value) (t : TypeId), W.heap[g]? = some (.cells cs t (0, 0)) → W'.heap[g]? = W.heap[g]? := fun g cs t hc => hg.block g (Array.getElem?_eq_some_iff.1 hc).1 (ne g cs t hc)
  exact ⟨⟨v, vs, h1.grown hg (ne _ _ _ h1), (h2.stay hg.size (fun g cs hc => kp g cs _ hc) (fun g cs hc => kp g cs _ hc)).more⟩, h3.grown hg (ne _ _ _ h3), h4.grown hg h4.size (fun k e => Nat.le_trans hB (hr k e).1)⟩
theorem iw_abt (w : World) (H : VL → Bool) (fv : Value) (B : Nat) (hB : w.heap.size ≤ B) : AbT B 54 (IW w H fv) := by
  refine ⟨?_, ?_, ?_⟩
  · rintro s W o ⟨⟨v, vs, h1, h2⟩, h3, h4⟩
    have kp : ∀ (g : Nat) (cs : Array Value) (t : TypeId), W.heap[g]? = some (.cells cs t (0, 0)) → (W.alloc o).heap[g]? = W.heap[g]? := fun g cs t hc => Below.heap_alloc W o g (Array.getElem?_eq_some_iff.1 hc).1
    exact ⟨⟨v, vs, h1.alloc o, (h2.stay (by simp) (fun g cs hc => kp g cs _ hc) (fun g cs hc => kp g cs _ hc)).more⟩, h3.alloc o, h4.alloc h4.size o⟩
  · rintro s W n ⟨⟨v, vs, h1, h2⟩, h3, h4⟩
    exact ⟨⟨v, vs, h1, (h2.stay (w' := W.drewN n) (Nat.le_refl _) (fun g cs hc => rfl) (fun g cs hc => rfl)).more⟩, h3, h4.trans ((Dr.n W n).below _)⟩
  · rintro s W b i u cs fr ⟨⟨v, vs, h1, h2⟩, h3, h4⟩ hb hc
    have ne : ∀ (g : Nat) (cs' : Array Value) (t : TypeId), t ≠ 54 → W.heap[g]? = some (.cells cs' t (0, 0)) → g ≠ b := fun g cs' t ht hg e => by
      subst e; rw [hc] at hg; injection hg with hg; injection hg with _ hg _; exact ht hg.symm
    have kp : ∀ (g : Nat) (cs' : Array Value) (t : TypeId), t ≠ 54 → W.heap[g]? = some (.cells cs' t (0, 0)) → (W.setCell ⟨b, i, none⟩ u).heap[g]? = W.heap[g]? := fun g cs' t ht hg => Below.heap_setCell W ⟨b, i, none⟩ u g (ne g cs' t ht hg)
    exact ⟨⟨v, vs, h1.off (ne _ _ _ (by decide) h1) _, (h2.stay (by simp [World.setCell]) (fun g cs hc => kp g cs _ (by decide) hc) (fun g cs hc => kp g cs _ (by decide) hc)).more⟩, h3.off (ne _ _ _ (by decide) h3) _, h4.setCell (p := ⟨b, i, none⟩) (Nat.le_trans hB hb) u⟩

theorem iw_below {w : World} {H : VL → Bool} {fv : Value} {pre : List VL} {W W' : World} (h : IW w H fv pre W) (hb : Below W.heap.size W W') : IW w H fv pre W' := by
  obtain ⟨⟨v, vs, h1, h2⟩, h3, h4⟩ := h
  exact ⟨⟨v, vs, h1.below hb h1.lt, (h2.below hb).more⟩, h3.below hb h3.lt, h4.trans (hb.mono h4.size)⟩
theorem ko_below {W W' : World} (hb : Below W.heap.size W W') : KeepsOthers W W' := ⟨hb.size, fun j o hj _ => (hb.block j (Array.getElem?_eq_some_iff.1 hj).1).trans hj⟩
theorem T_ints2 : (Try.prog.info? 22).map (fun i => (i.zero, i.size, i.bytes)) = some (some (.slice none 0 0), 1, 24) := by kernel_rfl
theorem opIn_append {F : Fence} {n : Nat} {P : Program} {o : Oper} {a : Act} {w w' : World} {K : Act → World → Prop} {Q : Exit → Act → World → Prop} {v v' : Value} {A : Option Addr} {m c : Nat} (s x : Operand) (t : TypeId)
    (ho : o.op = .call { callee := .builtin .append, args := #[s, x], argTypes := #[t, t] }) (hs : a.eval s = v) (hx : a.eval x = .slice A m c)
    (hrun : (Builtin.append_ #[t, t] o.type #[v, .slice A m c]).run P w = .ok v' w') (hK : K (a.put o.dst v') w') : o.wpIn F n P a w K Q :=
  opIn_val (by simp [Oper.about, ho, resolve, Target.leads, Sem.run_pure]) (by
    rw [Oper.semAt_plain F _ _ (by rw [ho]; intro c hc; cases hc)]
    simp [execOp, ho, resolve, invoke, builtin, hs, hx, hrun, Result.andThen]) hK
theorem opIn_store {F : Fence} {n : Nat} {P : Program} {o : Oper} {a : Act} {w w' : World} {K : Act → World → Prop} {Q : Exit → Act → World → Prop} (ty : TypeId) (x y : Operand)
    (ho : o.op = .store ty x y) (p : Addr) (hx : a.eval x = .pointer (some p)) (hrun : (storeVar ty p (a.eval y)).run P w = .ok () w') (hK : K (a.put o.dst undef) w') : o.wpIn F n P a w K Q :=
  ⟨fun f hf => (by simp [Oper.about, ho] at hf), (by
    rw [Oper.semAt_plain F _ _ (by rw [ho]; intro c hc; cases hc)]
    simp only [execOp, ho, hx, Instr.storeAt, Instr.sureAddr, Sem.run_bind, Sem.run_pure, Result.andThen_ok, hrun]
    exact hK)⟩
theorem allQ_few : (List.range 17).all (fun k => decide ((allQ k k k).length ≤ 1000)) = true := by decide +kernel
theorem allQ_len {k : Nat} (hk : k ≤ 16) : (allQ k k k).length ≤ 1000 := by
  have := List.all_eq_true.1 allQ_few k (by simp; omega)
  simpa using this
theorem round_end {w W W3 W4 : World} {H : VL → Bool} {fv : Value} {pre : List VL} {x : VL} {v v' : Value} {vs : List Value} {u : Option Addr} {lu hiu : Nat}
    (hLL : OwnLL W (w.heap.size + 2) W.heap.size 22 3 v vs ((pre.filter H).map (·.1))) (hb5 : Blk W (w.heap.size + 1) 36 #[v]) (hb3 : Blk W w.heap.size 91 #[fv]) (hB : Below w.heap.size w W) (hH : H x = true)
    (hB3 : Below W.heap.size W W3) (hu : Own W3 lu hiu 3 (.slice u x.1.length x.1.length) (ints x.1)) (hlu : W.heap.size ≤ lu) (ho4 : Own W4 (w.heap.size + 2) W4.heap.size 22 v' (vs ++ [.slice u x.1.length x.1.length]))
    (hg4 : W3.grownBy W4 v.ownBlock) (hat4 : v'.ownBlock = v.ownBlock ∨ v'.ownBlock = some W3.heap.size) :
    KeepsOthers W (W4.setCell ⟨w.heap.size + 1, 0, none⟩ v') ∧ KpT 54 W (W4.setCell ⟨w.heap.size + 1, 0, none⟩ v') ∧ IW w H fv (pre ++ [x]) (W4.setCell ⟨w.heap.size + 1, 0, none⟩ v') := by
  have hl5 := hb5.lt
  have hbase := hLL.outer.base
  have b3 : Blk W3 (w.heap.size + 1) 36 #[v] := hb5.below hB3 hb5.lt
  have b4 : Blk W4 (w.heap.size + 1) 36 #[v] := b3.grown hg4 (fun e => by have := hbase _ e.symm; omega)
  have f3 : Blk W3 w.heap.size 91 #[fv] := hb3.below hB3 hb3.lt
  have f4 : Blk W4 w.heap.size 91 #[fv] := f3.grown hg4 (fun e => by have := hbase _ e.symm; omega)
  have hz : W.heap.size ≤ W4.heap.size := Nat.le_trans hB3.size hg4.size
  have hk : ∀ j, j < W.heap.size → some j ≠ v.ownBlock → j ≠ w.heap.size + 1 → (W4.setCell ⟨w.heap.size + 1, 0, none⟩ v').heap[j]? = W.heap[j]? := fun j hj h1 h2 =>
    (Below.heap_setCell W4 ⟨w.heap.size + 1, 0, none⟩ v' j h2).trans ((hg4.block j (Nat.lt_of_lt_of_le hj hB3.size) h1).trans (hB3.block j hj))
  have hvb : ∀ g, v.ownBlock = some g → ∃ cs, W.heap[g]? = some (.cells cs 22 (0, 0)) := fun g hg => by
    rcases hLL.outer.row.2 with ⟨h1, _⟩ | ⟨g', cap, cur, h1, _, hb, _⟩
    · rw [h1] at hg; simp [Value.ownBlock] at hg
    · rw [h1] at hg
      simp [Value.ownBlock] at hg
      subst hg
      exact ⟨_, hb⟩
  have hs5 : (W4.setCell ⟨w.heap.size + 1, 0, none⟩ v').heap.size = W4.heap.size := by simp [World.setCell]
  refine ⟨⟨by rw [hs5]; exact hz, fun j o hj ho => (hk j (Array.getElem?_eq_some_iff.1 hj).1 ?_ ?_).trans hj⟩, ⟨by rw [hs5]; exact hz, fun b cs fr hb => (hk b (Array.getElem?_eq_some_iff.1 hb).1 ?_ ?_).trans hb⟩, ?_⟩
  · intro e
    obtain ⟨cs, hc⟩ := hvb j e.symm
    rw [hc] at hj; injection hj with hj; subst hj; simp [Obj.isCells] at ho
  · intro e
    subst e
    rw [show W.heap[w.heap.size + 1]? = _ from hb5] at hj; injection hj with hj; subst hj; simp [Obj.isCells] at ho
  · intro e
    obtain ⟨cs', hc⟩ := hvb b e.symm
    rw [hc] at hb; injection hb with hb; injection hb with _ hb _; exact absurd hb (by decide)
  · intro e
    subst e
    rw [show W.heap[w.heap.size + 1]? = _ from hb5] at hb; injection hb with hb; injection hb with _ hb _; exact absurd hb (by decide)
  · have hne : ∀ (g : Nat) (cs : Array Value) (t : TypeId), t ≠ 36 → W4.heap[g]? = some (.cells cs t (0, 0)) → g ≠ w.heap.size + 1 := fun g cs t ht hg e => by
      subst e
      rw [show W4.heap[w.heap.size + 1]? = _ from b4] at hg; injection hg with hg; injection hg with _ hg _; exact ht hg.symm
    have hLL4 := (hLL.below hB3).append hu hlu (by omega) ho4 hg4 hat4
    have hLL5 := hLL4.stay (w' := W4.setCell ⟨w.heap.size + 1, 0, none⟩ v') (by rw [hs5]; exact Nat.le_refl _) (fun g cs hc => Below.heap_setCell W4 ⟨w.heap.size + 1, 0, none⟩ v' g (hne g cs _ (by decide) hc)) (fun g cs hc => Below.heap_setCell W4 ⟨w.heap.size + 1, 0, none⟩ v' g (hne g cs _ (by decide) hc))
    have hf : ((pre ++ [x]).filter H).map (·.1) = (pre.filter H).map (·.1) ++ [x.1] := by rw [List.filter_append]; simp [hH]
    refine ⟨⟨v', vs ++ [.slice u x.1.length x.1.length], b4.set 0 v', ?_⟩, f4.off (by show w.heap.size ≠ w.heap.size + 1; omega) _, ?_⟩
    · rw [hf]; exact hLL5.more
    · exact ((hB.trans (hB3.mono hB.size)).grown hg4 (Nat.le_trans hB.size hB3.size) (fun g e => by have := hbase g e; omega)).setCell (p := ⟨w.heap.size + 1, 0, none⟩) (by show w.heap.size ≤ w.heap.size + 1; omega) _
def AxW (w : World) (k : Nat) (fv : Value) (x : VL) (a' : Act) (W : World) : Prop := ∃ Bx, w.heap.size + 2 ≤ Bx ∧ Blk W Bx 54 (arr (pad x.1)) ∧
  a' = { tmps := #[.int .i64 k, fv, undef, .pointer (some ⟨w.heap.size, 0, none⟩), .slice none 0 0, .pointer (some ⟨w.heap.size + 1, 0, none⟩), .pointer (some ⟨Bx, 0, none⟩), .int .i64 k, .func (.func 91) #[] #[.pointer (some ⟨w.heap.size + 1 + 1, 0, none⟩)], .agg (arr (pad x.1)), undef, undef, undef, undef, undef, undef, undef, undef, undef], defers := [] }

set_option maxRecDepth 100000 in
set_option maxHeartbeats 4000000 in
theorem partsWhere_any (k : Nat) (hk : k ≤ 16) (fv : Value) (H0 : List Int → Bool) (w : World) (hfv : IsK w fv H0) (H : VL → Bool) (hH0 : ∀ x : VL, H x = H0 x.1) :
    Calls Try.prog 80 #[.int .i64 k, fv] w fun e w' => ∃ (xs : List VL) (a' : Option Addr) (c' : Nat) (vs : List Value), xs.map (·.1) = allQ k k k ∧ e = .returned (.slice a' ((xs.filter H).map (·.1)).length c') ∧ OwnLL w' w.heap.size w'.heap.size 22 3 (.slice a' ((xs.filter H).map (·.1)).length c') vs ((xs.filter H).map (·.1)) ∧ Below w.heap.size w w' := by
  refine (callsIn_wide (n := 6)).1 ?_
  obtain ⟨ff, fp, fc, rfl, he, hh⟩ := hfv
  refine callsIn_of_wp_marks Try.func80 rfl trivial ?_ rfl
  simp only [Try.ntmps80, List.size_toArray, List.length_cons, List.length_nil, Nat.reduceAdd, Nat.reduceSub, Array.replicate_succ, Array.replicate_zero, List.push_toArray, List.append_toArray, List.nil_append, List.cons_append]
  gi_wp2_with ((refine ⟨trivial, ?_⟩; gi_at_call 74; refine (dwith_in Fence.wide _ trivial rfl _ _).mono ?_; rintro e w' ⟨rfl, rfl⟩))
  obtain ⟨W0, hW0⟩ : ∃ W0, (((w.alloc (.cells #[.func (.func ff) fp fc] 91)).alloc (.cells #[.slice none 0 0] 36)).alloc (.cells #[.int .i64 k] 3)) = W0 := ⟨_, rfl⟩
  have hs0 : W0.heap.size = w.heap.size + 3 := by rw [← hW0]; simp
  have hb3 : Blk W0 w.heap.size 91 #[.func (.func ff) fp fc] := by rw [← hW0]; exact ((Blk.new w _ _).alloc _).alloc _
  have hb5 : Blk W0 (w.heap.size + 1) 36 #[.slice none 0 0] := by
    rw [← hW0]
    have e := (Blk.new (w.alloc (.cells #[.func (.func ff) fp fc] 91)) 36 #[.slice none 0 0]).alloc (.cells #[.int .i64 k] 3)
    rw [World.size_alloc] at e
    exact e
  have hbn : W0.cell? ⟨w.heap.size + 1 + 1, 0, none⟩ = some (.int .i64 k) := by
    rw [← hW0]
    have e := Blk.new ((w.alloc (.cells #[.func (.func ff) fp fc] 91)).alloc (.cells #[.slice none 0 0] 36)) 3 #[.int .i64 k]
    rw [World.size_alloc, World.size_alloc] at e
    rw [e.cell 0]
    rfl
  have hB0 : Below w.heap.size w W0 := by rw [← hW0]; exact (((Below.refl _ _).alloc (Nat.le_refl _) _).alloc (by simp) _).alloc (by simp; omega) _
  rw [hW0]
  have hI0 : IW w H (.func (.func ff) fp fc) [] W0 := ⟨⟨_, [], hb5, by rw [show w.heap.size + 2 = w.heap.size + 2 from rfl]; exact (OwnLL.nil W0 (w.heap.size + 2) _ _)⟩, hb3, hB0⟩
  clear hb3 hb5 hB0 hW0
  refine wpIn_range_T 54 rfl (by omega) (gf := 91) (lb := #[.pointer (some ⟨w.heap.size + 1 + 1, 0, none⟩)]) rfl trivial (enters_of Try.func91 (by kernel_rfl) rfl)
    (dwith_seq Fence.wide rfl trivial trivial rfl (6 - 1) k (w.heap.size + 1 + 1) hk W0 (by omega) hbn) (Below.refl _ _) (fun _ => rfl)
    (IW w H (.func (.func ff) fp fc)) (fun _ _ _ => False) (iw_from w H _ _ (by omega)) (fun _ _ _ _ _ h _ _ => h) (iw_abt w H _ _ (by omega)) (fun _ => ⟨fun _ _ _ h => h, fun _ _ _ h => h, fun _ _ _ _ _ _ _ h _ _ => h⟩) hI0
    (AxW w k (.func (.func ff) fp fc)) ?hax ?assign ?body ?done ?stop
  case hax =>
    rintro a' s W W' row ⟨Bx, hBx, hb, rfl⟩ hg hr
    refine ⟨Bx, hBx, hb.grown hg (fun e => ?_), rfl⟩
    obtain ⟨_, o, ho, hc⟩ := hr Bx e.symm
    rw [show W.heap[Bx]? = _ from hb] at ho; injection ho with ho; subst ho; simp [Obj.isCells] at hc
  case assign =>
    intro l pre x W K hi hK
    have hlen : x.1.length ≤ 16 := (valid_bd x.2).2.2.2
    have hi16 : (Try.prog.info? 54).map (·.size) = some (arr (pad x.1)).size := by rw [arr_size, pad_len hlen]; exact T_info35
    have hszx : (arr (pad x.1)).size = (arr (List.replicate 16 0)).size := by rw [arr_size, arr_size, pad_len hlen]; rfl
    have hbz := Blk.new W 54 (arr (List.replicate 16 0))
    have hbw : Below W.heap.size W ((W.alloc (.cells (arr (List.replicate 16 0)) 54)).setRow W.heap.size (arr (pad x.1))) := below_setRow' ((Below.refl _ _).alloc (Nat.le_refl _) _) (Nat.le_refl _) _
    have hlt := hi.1.choose_spec.choose_spec.1.lt
    gi_wp2_with (refine wpListIn_store_row rfl 54 (.tmp 6) (.tmp 9) rfl W.heap.size (arr (pad x.1)) rfl rfl (run_storeVar_row _ W.heap.size 54 54 _ _ hbz hi16 hszx (arr_one _)) ?_)
    exact hK _ _ (ko_below hbw) (KpT.below hbw) (iw_below hi hbw) ⟨W.heap.size, by omega, hbz.row, rfl⟩
  case body =>
    rintro l pre x a' W ⟨⟨v, vs, hb5, hLL⟩, hb3, hB⟩ ⟨Bx, hBx, hbx, rfl⟩ hlen
    have hpl : x.1.length ≤ 16 := (valid_bd x.2).2.2.2
    have hi16 : (Try.prog.info? 54).map (·.size) = some (arr (pad x.1)).size := by rw [arr_size, pad_len hpl]; exact T_info35
    have c3 : W.cell? ⟨w.heap.size, 0, none⟩ = some (.func (.func ff) fp fc) := by rw [hb3.cell 0]; rfl
    have hhx := hh W hB x.1 x.2
    rw [← hH0] at hhx
    have hIW : IW w H (.func (.func ff) fp fc) pre W := ⟨⟨v, vs, hb5, hLL⟩, hb3, hB⟩
    cases hH : H x with
    | false =>
      rw [hH] at hhx
      have hf : (pre ++ [x]).filter H = pre.filter H := by rw [List.filter_append]; simp [hH]
      gi_wp2_with (first
        | (refine wpListIn_load_row rfl 54 (.tmp 6) rfl Bx rfl 54 (arr (pad x.1)) (0, 0) _ hbx Try.underlying54 rfl hi16 ?_)
        | (refine ⟨trivial, ?_⟩; refine (CallsIn.inRound l (callsIn_wide.2 hhx)).mono ?_; rintro e W1 ⟨rfl, hb1⟩))
      refine ⟨ko_below hb1, KpT.below hb1, ?_⟩
      have := iw_below hIW hb1
      unfold IW at this ⊢
      rw [hf]
      exact this
    | true =>
      rw [hH] at hhx
      gi_wp2_with (first
        | (refine wpListIn_load_row rfl 54 (.tmp 6) rfl Bx rfl 54 (arr (pad x.1)) (0, 0) _ hbx Try.underlying54 rfl hi16 ?_)
        | (refine ⟨trivial, ?_⟩; refine (CallsIn.inRound l (callsIn_wide.2 hhx)).mono ?_; rintro e W1 ⟨rfl, hb1⟩))
      have hmx : Try.prog.follows .mixedOrders = true := by kernel_rfl
      obtain ⟨i22, hi22, hq0, hq1, hq2⟩ := info_parts T_ints2
      have hvl : vs.length ≤ 1000 := by
        have h1 := hLL.len
        have h2 := List.length_filter_le H pre
        have h3 := allQ_len hk
        rw [List.length_map] at h1
        omega
      have hIW1 := iw_below hIW hb1
      have hbx1 := hbx.below hb1 hbx.lt
      refine wpIn_region_any hmx ?_
      obtain ⟨y, hy⟩ : ∃ y, W1.drew = y := ⟨_, rfl⟩
      change wpAnyIn _ _ _ _ _ _ _ _ _ (World.drew _)
      rw [hy]
      have hb1y : Below W.heap.size W y := by rw [← hy]; exact hb1.trans ((Dr.n W1 1).below _)
      have hb5y : Blk y (w.heap.size + 1) 36 #[v] := hb5.below hb1y hb5.lt
      have c5y : y.cell? ⟨w.heap.size + 1, 0, none⟩ = some v := by rw [hb5y.cell 0]; rfl
      have hlt5y : w.heap.size + 1 < y.heap.size := hb5y.lt
      have hbxy : Blk y Bx 54 (arr (pad x.1)) := hbx.below hb1y hbx.lt
      have hld := run_loadVar_row y Bx 54 54 (arr (pad x.1)) (0, 0) _ hbxy Try.underlying54 rfl hi16
      refine wpAnyIn_ready (rs := [0, 1]) (by kernel_rfl) (by simp) ?_
      refine AllReadyIn.cons rfl (fun K hK => ?_) ?_
      · skip
        rw [if_pos (by rfl)]
        refine opIn_val (v := v) (w' := y) (by simp [Oper.about]) (by have hc := c5y; go_simp) ?_
        refine hK _ _ ?_
        clear hK K
        try simp only [Act.put, List.setIfInBounds_toArray, List.set_cons_zero, List.set_cons_succ]
        refine wpAnyIn_ready (rs := [1]) (by kernel_rfl) (by simp) ?_
        refine AllReadyIn.cons rfl (fun K hK => ?_) AllReadyIn.nil
        rw [if_pos (by rfl)]
        refine opIn_loadv 54 (.tmp 6) rfl ⟨Bx, 0, none⟩ rfl hld ?_
        refine hK _ _ ?_
        clear hK K
        try simp only [Act.put, List.setIfInBounds_toArray, List.set_cons_zero, List.set_cons_succ]
        refine wpAnyIn_ready (rs := [2]) (by kernel_rfl) (by simp) ?_
        refine AllReadyIn.cons rfl (fun K hK => ?_) AllReadyIn.nil
        rw [if_pos (by rfl)]
        go_simp
        refine ⟨trivial, ?_⟩
        gi_at_call 94
        refine (CallsIn.inRound l (callsIn_wide.2 (list_any x.1 x.2 y))).mono ?_
        rintro e W2 ⟨u, rfl, hu, hb2⟩
        have hB2 := hb1y.trans (hb2.mono hb1y.size)
        have c5b : W2.cell? ⟨w.heap.size + 1, 0, none⟩ = some v := (hb2.cell (p := ⟨w.heap.size + 1, 0, none⟩) hlt5y).trans c5y
        have hu' := hu
        obtain ⟨W3, hW3⟩ : ∃ W3, W2.alloc (.cells #[.slice u x.1.length x.1.length] 22) = W3 := ⟨_, rfl⟩
        have c5c : W3.cell? ⟨w.heap.size + 1, 0, none⟩ = some v := by rw [← hW3]; exact (((Below.refl W2.heap.size W2).alloc (Nat.le_refl _) _).cell (p := ⟨w.heap.size + 1, 0, none⟩) (World.block_lt_of_cell? W2 _ c5b)).trans c5b
        refine hK _ _ ?_
        clear hK K
        try simp only [Act.put, List.setIfInBounds_toArray, List.set_cons_zero, List.set_cons_succ]
        refine wpAnyIn_ready (rs := [3]) (by kernel_rfl) (by simp) ?_
        refine AllReadyIn.cons rfl (fun K hK => ?_) AllReadyIn.nil
        rw [if_pos (by rfl)]
        refine opIn_val (v := .slice (some ⟨W2.heap.size, 0, none⟩) 1 1) (w' := W3) (by simp [Oper.about]) (by rw [← hW3]; go_simp) ?_
        refine hK _ _ ?_
        clear hK K
        try simp only [Act.put, List.setIfInBounds_toArray, List.set_cons_zero, List.set_cons_succ]
        refine wpAnyIn_ready (rs := [4]) (by kernel_rfl) (by simp) ?_
        refine AllReadyIn.cons rfl (fun K hK => ?_) AllReadyIn.nil
        rw [if_pos (by rfl)]
        have hoW3 : Own W3 (w.heap.size + 2) W.heap.size 22 v vs := by rw [← hW3]; exact (hLL.outer.below hB2).alloc _
        have hrW3 : Rd W3 (W2.heap.size + 1) (some ⟨W2.heap.size, 0, none⟩) [.slice u x.1.length x.1.length] := by rw [← hW3]; exact Rd.one W2 _ _
        have hs3 : W3.heap.size = W2.heap.size + 1 := by rw [← hW3]; simp
        have hB3 : Below W.heap.size W W3 := by rw [← hW3]; exact hB2.alloc hB2.size _
        obtain ⟨v', W4, hrun, ho4, hg4, hat4⟩ := run_append_o (P := Try.prog) (m := 1) (c := 1) W3 (w.heap.size + 2) W.heap.size 36 36 22 i22 (.slice none 0 0) 24 Try.underlying36 hi22 hq0 hq1 hq2 rfl hoW3 hrW3 rfl (by simp; rfl) (by unfold maxLen; omega) (by omega) (by have := hb5.lt; have := hB3.size; omega)
        refine opIn_append (.tmp 13) (.tmp 16) 36 rfl rfl rfl hrun ?_
        refine hK _ _ ?_
        clear hK K
        try simp only [Act.put, List.setIfInBounds_toArray, List.set_cons_zero, List.set_cons_succ]
        refine wpAnyIn_ready (rs := [5]) (by kernel_rfl) (by simp) ?_
        refine AllReadyIn.cons rfl (fun K hK => ?_) AllReadyIn.nil
        have b5c : Blk W3 (w.heap.size + 1) 36 #[v] := hb5.below hB3 hb5.lt
        have b5d : Blk W4 (w.heap.size + 1) 36 #[v] := b5c.grown hg4 (fun e => by have := hoW3.base _ e.symm; omega)
        have c5d : W4.cell? ⟨w.heap.size + 1, 0, none⟩ = some v := by rw [b5d.cell 0]; rfl
        have f5d : W4.frozen? ⟨w.heap.size + 1, 0, none⟩ = false := b5d.free 0
        rw [if_pos (by rfl)]
        refine opIn_store 36 (.tmp 5) (.tmp 17) rfl ⟨w.heap.size + 1, 0, none⟩ rfl (w' := W4.setCell ⟨w.heap.size + 1, 0, none⟩ v') (by have hq := c5d; have hq' := f5d; obtain ⟨av, cv, rfl⟩ := ho4.form; go_simp) ?_
        refine hK _ _ ?_
        clear hK K
        try simp only [Act.put, List.setIfInBounds_toArray, List.set_cons_zero, List.set_cons_succ]
        refine wpAnyIn_done (by kernel_rfl) ?_ _
        exact round_end hLL hb5 hb3 hB hH hB3 (by rw [← hW3]; exact hu'.alloc _) hb1y.size ho4 hg4 hat4
      refine AllReadyIn.cons rfl (fun K hK => ?_) AllReadyIn.nil
      rw [if_pos (by rfl)]
      refine opIn_loadv 54 (.tmp 6) rfl ⟨Bx, 0, none⟩ rfl hld ?_
      refine hK _ _ ?_
      clear hK K
      try simp only [Act.put, List.setIfInBounds_toArray, List.set_cons_zero, List.set_cons_succ]
      refine wpAnyIn_ready (rs := [0, 2]) (by kernel_rfl) (by simp) ?_
      refine AllReadyIn.cons rfl (fun K hK => ?_) ?_
      · skip
        rw [if_pos (by rfl)]
        refine opIn_val (v := v) (w' := y) (by simp [Oper.about]) (by have hc := c5y; go_simp) ?_
        refine hK _ _ ?_
        clear hK K
        try simp only [Act.put, List.setIfInBounds_toArray, List.set_cons_zero, List.set_cons_succ]
        refine wpAnyIn_ready (rs := [2]) (by kernel_rfl) (by simp) ?_
        refine AllReadyIn.cons rfl (fun K hK => ?_) AllReadyIn.nil
        rw [if_pos (by rfl)]
        go_simp
        refine ⟨trivial, ?_⟩
        gi_at_call 94
        refine (CallsIn.inRound l (callsIn_wide.2 (list_any x.1 x.2 y))).mono ?_
        rintro e W2 ⟨u, rfl, hu, hb2⟩
        have hB2 := hb1y.trans (hb2.mono hb1y.size)
        have c5b : W2.cell? ⟨w.heap.size + 1, 0, none⟩ = some v := (hb2.cell (p := ⟨w.heap.size + 1, 0, none⟩) hlt5y).trans c5y
        have hu' := hu
        obtain ⟨W3, hW3⟩ : ∃ W3, W2.alloc (.cells #[.slice u x.1.length x.1.length] 22) = W3 := ⟨_, rfl⟩
        have c5c : W3.cell? ⟨w.heap.size + 1, 0, none⟩ = some v := by rw [← hW3]; exact (((Below.refl W2.heap.size W2).alloc (Nat.le_refl _) _).cell (p := ⟨w.heap.size + 1, 0, none⟩) (World.block_lt_of_cell? W2 _ c5b)).trans c5b
        refine hK _ _ ?_
        clear hK K
        try simp only [Act.put, List.setIfInBounds_toArray, List.set_cons_zero, List.set_cons_succ]
        refine wpAnyIn_ready (rs := [3]) (by kernel_rfl) (by simp) ?_
        refine AllReadyIn.cons rfl (fun K hK => ?_) AllReadyIn.nil
        rw [if_pos (by rfl)]
        refine opIn_val (v := .slice (some ⟨W2.heap.size, 0, none⟩) 1 1) (w' := W3) (by simp [Oper.about]) (by rw [← hW3]; go_simp) ?_
        refine hK _ _ ?_
        clear hK K
        try simp only [Act.put, List.setIfInBounds_toArray, List.set_cons_zero, List.set_cons_succ]
        refine wpAnyIn_ready (rs := [4]) (by kernel_rfl) (by simp) ?_
        refine AllReadyIn.cons rfl (fun K hK => ?_) AllReadyIn.nil
        rw [if_pos (by rfl)]
        have hoW3 : Own W3 (w.heap.size + 2) W.heap.size 22 v vs := by rw [← hW3]; exact (hLL.outer.below hB2).alloc _
        have hrW3 : Rd W3 (W2.heap.size + 1) (some ⟨W2.heap.size, 0, none⟩) [.slice u x.1.length x.1.length] := by rw [← hW3]; exact Rd.one W2 _ _
        have hs3 : W3.heap.size = W2.heap.size + 1 := by rw [← hW3]; simp
        have hB3 : Below W.heap.size W W3 := by rw [← hW3]; exact hB2.alloc hB2.size _
        obtain ⟨v', W4, hrun, ho4, hg4, hat4⟩ := run_append_o (P := Try.prog) (m := 1) (c := 1) W3 (w.heap.size + 2) W.heap.size 36 36 22 i22 (.slice none 0 0) 24 Try.underlying36 hi22 hq0 hq1 hq2 rfl hoW3 hrW3 rfl (by simp; rfl) (by unfold maxLen; omega) (by omega) (by have := hb5.lt; have := hB3.size; omega)
        refine opIn_append (.tmp 13) (.tmp 16) 36 rfl rfl rfl hrun ?_
        refine hK _ _ ?_
        clear hK K
        try simp only [Act.put, List.setIfInBounds_toArray, List.set_cons_zero, List.set_cons_succ]
        refine wpAnyIn_ready (rs := [5]) (by kernel_rfl) (by simp) ?_
        refine AllReadyIn.cons rfl (fun K hK => ?_) AllReadyIn.nil
        have b5c : Blk W3 (w.heap.size + 1) 36 #[v] := hb5.below hB3 hb5.lt
        have b5d : Blk W4 (w.heap.size + 1) 36 #[v] := b5c.grown hg4 (fun e => by have := hoW3.base _ e.symm; omega)
        have c5d : W4.cell? ⟨w.heap.size + 1, 0, none⟩ = some v := by rw [b5d.cell 0]; rfl
        have f5d : W4.frozen? ⟨w.heap.size + 1, 0, none⟩ = false := b5d.free 0
        rw [if_pos (by rfl)]
        refine opIn_store 36 (.tmp 5) (.tmp 17) rfl ⟨w.heap.size + 1, 0, none⟩ rfl (w' := W4.setCell ⟨w.heap.size + 1, 0, none⟩ v') (by have hq := c5d; have hq' := f5d; obtain ⟨av, cv, rfl⟩ := ho4.form; go_simp) ?_
        refine hK _ _ ?_
        clear hK K
        try simp only [Act.put, List.setIfInBounds_toArray, List.set_cons_zero, List.set_cons_succ]
        refine wpAnyIn_done (by kernel_rfl) ?_ _
        exact round_end hLL hb5 hb3 hB hH hB3 (by rw [← hW3]; exact hu'.alloc _) hb1y.size ho4 hg4 hat4
      refine AllReadyIn.cons rfl (fun K hK => ?_) AllReadyIn.nil
      rw [if_pos (by rfl)]
      go_simp
      refine ⟨trivial, ?_⟩
      gi_at_call 94
      refine (CallsIn.inRound l (callsIn_wide.2 (list_any x.1 x.2 y))).mono ?_
      rintro e W2 ⟨u, rfl, hu, hb2⟩
      have hB2 := hb1y.trans (hb2.mono hb1y.size)
      have c5b : W2.cell? ⟨w.heap.size + 1, 0, none⟩ = some v := (hb2.cell (p := ⟨w.heap.size + 1, 0, none⟩) hlt5y).trans c5y
      have hu' := hu
      obtain ⟨W3, hW3⟩ : ∃ W3, W2.alloc (.cells #[.slice u x.1.length x.1.length] 22) = W3 := ⟨_, rfl⟩
      have c5c : W3.cell? ⟨w.heap.size + 1, 0, none⟩ = some v := by rw [← hW3]; exact (((Below.refl W2.heap.size W2).alloc (Nat.le_refl _) _).cell (p := ⟨w.heap.size + 1, 0, none⟩) (World.block_lt_of_cell? W2 _ c5b)).trans c5b
      refine hK _ _ ?_
      clear hK K
      try simp only [Act.put, List.setIfInBounds_toArray, List.set_cons_zero, List.set_cons_succ]
      refine wpAnyIn_ready (rs := [0, 3]) (by kernel_rfl) (by simp) ?_
      refine AllReadyIn.cons rfl (fun K hK => ?_) ?_
      · skip
        rw [if_pos (by rfl)]
        refine opIn_val (v := v) (w' := W2) (by simp [Oper.about]) (by have hc := c5b; go_simp) ?_
        refine hK _ _ ?_
        clear hK K
        try simp only [Act.put, List.setIfInBounds_toArray, List.set_cons_zero, List.set_cons_succ]
        refine wpAnyIn_ready (rs := [3]) (by kernel_rfl) (by simp) ?_
        refine AllReadyIn.cons rfl (fun K hK => ?_) AllReadyIn.nil
        rw [if_pos (by rfl)]
        refine opIn_val (v := .slice (some ⟨W2.heap.size, 0, none⟩) 1 1) (w' := W3) (by simp [Oper.about]) (by rw [← hW3]; go_simp) ?_
        refine hK _ _ ?_
        clear hK K
        try simp only [Act.put, List.setIfInBounds_toArray, List.set_cons_zero, List.set_cons_succ]
        refine wpAnyIn_ready (rs := [4]) (by kernel_rfl) (by simp) ?_
        refine AllReadyIn.cons rfl (fun K hK => ?_) AllReadyIn.nil
        rw [if_pos (by rfl)]
        have hoW3 : Own W3 (w.heap.size + 2) W.heap.size 22 v vs := by rw [← hW3]; exact (hLL.outer.below hB2).alloc _
        have hrW3 : Rd W3 (W2.heap.size + 1) (some ⟨W2.heap.size, 0, none⟩) [.slice u x.1.length x.1.length] := by rw [← hW3]; exact Rd.one W2 _ _
        have hs3 : W3.heap.size = W2.heap.size + 1 := by rw [← hW3]; simp
        have hB3 : Below W.heap.size W W3 := by rw [← hW3]; exact hB2.alloc hB2.size _
        obtain ⟨v', W4, hrun, ho4, hg4, hat4⟩ := run_append_o (P := Try.prog) (m := 1) (c := 1) W3 (w.heap.size + 2) W.heap.size 36 36 22 i22 (.slice none 0 0) 24 Try.underlying36 hi22 hq0 hq1 hq2 rfl hoW3 hrW3 rfl (by simp; rfl) (by unfold maxLen; omega) (by omega) (by have := hb5.lt; have := hB3.size; omega)
        refine opIn_append (.tmp 13) (.tmp 16) 36 rfl rfl rfl hrun ?_
        refine hK _ _ ?_
        clear hK K
        try simp only [Act.put, List.setIfInBounds_toArray, List.set_cons_zero, List.set_cons_succ]
        refine wpAnyIn_ready (rs := [5]) (by kernel_rfl) (by simp) ?_
        refine AllReadyIn.cons rfl (fun K hK => ?_) AllReadyIn.nil
        have b5c : Blk W3 (w.heap.size + 1) 36 #[v] := hb5.below hB3 hb5.lt
        have b5d : Blk W4 (w.heap.size + 1) 36 #[v] := b5c.grown hg4 (fun e => by have := hoW3.base _ e.symm; omega)
        have c5d : W4.cell? ⟨w.heap.size + 1, 0, none⟩ = some v := by rw [b5d.cell 0]; rfl
        have f5d : W4.frozen? ⟨w.heap.size + 1, 0, none⟩ = false := b5d.free 0
        rw [if_pos (by rfl)]
        refine opIn_store 36 (.tmp 5) (.tmp 17) rfl ⟨w.heap.size + 1, 0, none⟩ rfl (w' := W4.setCell ⟨w.heap.size + 1, 0, none⟩ v') (by have hq := c5d; have hq' := f5d; obtain ⟨av, cv, rfl⟩ := ho4.form; go_simp) ?_
        refine hK _ _ ?_
        clear hK K
        try simp only [Act.put, List.setIfInBounds_toArray, List.set_cons_zero, List.set_cons_succ]
        refine wpAnyIn_done (by kernel_rfl) ?_ _
        exact round_end hLL hb5 hb3 hB hH hB3 (by rw [← hW3]; exact hu'.alloc _) hb1y.size ho4 hg4 hat4
      refine AllReadyIn.cons rfl (fun K hK => ?_) AllReadyIn.nil
      rw [if_pos (by rfl)]
      refine opIn_val (v := .slice (some ⟨W2.heap.size, 0, none⟩) 1 1) (w' := W3) (by simp [Oper.about]) (by rw [← hW3]; go_simp) ?_
      refine hK _ _ ?_
      clear hK K
      try simp only [Act.put, List.setIfInBounds_toArray, List.set_cons_zero, List.set_cons_succ]
      refine wpAnyIn_ready (rs := [0]) (by kernel_rfl) (by simp) ?_
      refine AllReadyIn.cons rfl (fun K hK => ?_) AllReadyIn.nil
      rw [if_pos (by rfl)]
      refine opIn_val (v := v) (w' := W3) (by simp [Oper.about]) (by have hc := c5c; go_simp) ?_
      refine hK _ _ ?_
      clear hK K
      try simp only [Act.put, List.setIfInBounds_toArray, List.set_cons_zero, List.set_cons_succ]
      refine wpAnyIn_ready (rs := [4]) (by kernel_rfl) (by simp) ?_
      refine AllReadyIn.cons rfl (fun K hK => ?_) AllReadyIn.nil
      rw [if_pos (by rfl)]
      have hoW3 : Own W3 (w.heap.size + 2) W.heap.size 22 v vs := by rw [← hW3]; exact (hLL.outer.below hB2).alloc _
      have hrW3 : Rd W3 (W2.heap.size + 1) (some ⟨W2.heap.size, 0, none⟩) [.slice u x.1.length x.1.length] := by rw [← hW3]; exact Rd.one W2 _ _
      have hs3 : W3.heap.size = W2.heap.size + 1 := by rw [← hW3]; simp
      have hB3 : Below W.heap.size W W3 := by rw [← hW3]; exact hB2.alloc hB2.size _
      obtain ⟨v', W4, hrun, ho4, hg4, hat4⟩ := run_append_o (P := Try.prog) (m := 1) (c := 1) W3 (w.heap.size + 2) W.heap.size 36 36 22 i22 (.slice none 0 0) 24 Try.underlying36 hi22 hq0 hq1 hq2 rfl hoW3 hrW3 rfl (by simp; rfl) (by unfold maxLen; omega) (by omega) (by have := hb5.lt; have := hB3.size; omega)
      refine opIn_append (.tmp 13) (.tmp 16) 36 rfl rfl rfl hrun ?_
      refine hK _ _ ?_
      clear hK K
      try simp only [Act.put, List.setIfInBounds_toArray, List.set_cons_zero, List.set_cons_succ]
      refine wpAnyIn_ready (rs := [5]) (by kernel_rfl) (by simp) ?_
      refine AllReadyIn.cons rfl (fun K hK => ?_) AllReadyIn.nil
      have b5c : Blk W3 (w.heap.size + 1) 36 #[v] := hb5.below hB3 hb5.lt
      have b5d : Blk W4 (w.heap.size + 1) 36 #[v] := b5c.grown hg4 (fun e => by have := hoW3.base _ e.symm; omega)
      have c5d : W4.cell? ⟨w.heap.size + 1, 0, none⟩ = some v := by rw [b5d.cell 0]; rfl
      have f5d : W4.frozen? ⟨w.heap.size + 1, 0, none⟩ = false := b5d.free 0
      rw [if_pos (by rfl)]
      refine opIn_store 36 (.tmp 5) (.tmp 17) rfl ⟨w.heap.size + 1, 0, none⟩ rfl (w' := W4.setCell ⟨w.heap.size + 1, 0, none⟩ v') (by have hq := c5d; have hq' := f5d; obtain ⟨av, cv, rfl⟩ := ho4.form; go_simp) ?_
      refine hK _ _ ?_
      clear hK K
      try simp only [Act.put, List.setIfInBounds_toArray, List.set_cons_zero, List.set_cons_succ]
      refine wpAnyIn_done (by kernel_rfl) ?_ _
      exact round_end hLL hb5 hb3 hB hH hB3 (by rw [← hW3]; exact hu'.alloc _) hb1y.size ho4 hg4 hat4

  case done =>
    rintro D ys W hD hS hIW hK
    clear hH0
    have hIW2 := (iw_from w H (.func (.func ff) fp fc) w.heap.size (Nat.le_refl _)).putObj (.deferred none) hIW (by omega) hK rfl
    obtain ⟨⟨v, vs, hb5, hLL⟩, hb3, hB⟩ := hIW
    obtain ⟨⟨v2, vs2, hb52, hLL2⟩, -, hB2⟩ := hIW2
    have c5 : W.cell? ⟨w.heap.size + 1, 0, none⟩ = some v := by rw [hb5.cell 0]; rfl
    have hvv : v2 = v := by
      have hne : w.heap.size + 1 ≠ D := by rintro rfl; rw [show W.heap[w.heap.size + 1]? = _ from hb5] at hK; cases hK
      have e := (World.putObj_heap_other (w := W) (o := .deferred none) hne).symm.trans (show (W.putObj D (.deferred none)).heap[w.heap.size + 1]? = _ from hb52)
      rw [show W.heap[w.heap.size + 1]? = _ from hb5] at e
      injection e with e
      injection e with e _ _
      injection e with e
      simpa using e.symm
    subst hvv
    obtain ⟨av, cv, rfl⟩ := hLL.form
    gi_wp2
    refine ⟨by simp, .inl ⟨_, _, rfl, run_takeDeferred hK, ?_⟩⟩
    refine ⟨_, results_tmp rfl _ _ _, ys, av, cv, vs2, hS, by simp, hLL2.lower (by omega), hB2⟩
  case stop =>
    rintro D c pre W _ _ h _
    exact h.elim
end Go.Proofs.Ytcjnmconehfbgaa
namespace Go.Proofs.Ytcjnmconehfbgaa
open Go.RowKit
set_option linter.unusedVariables false
/-- of the operations ahead of the one numbered z each edge leads back, each operand that one of them yields is waited for, no one is guarded; whatever is numbered z or above waits for all of them -/
def regOk (md : Region.Mode) (ops : Array Oper) (z : Nat) : Bool :=
  decide (z ≤ ops.size) &&
  (List.range ops.size).all fun i => match ops[i]? with
    | none => false
    | some o => (match o.op with | .defer _ => false | .select _ _ => false | _ => true) &&
      (if i < z then o.guard.isNone && (o.after.toList.all fun e => !Region.binds md e || decide (e.on < i)) &&
        (o.op.operands.toList.all fun x => match x with
          | .tmp t => (List.range z).all fun j => match (ops[j]?).bind (·.dst) with
            | some d => !(d == t) || o.after.toList.any fun e => Region.binds md e && e.on == j
            | none => true
          | _ => true)
      else if i = z then true else o.after.toList.any fun e => Region.binds md e && decide (z ≤ e.on) && decide (e.on < i))
/-- each operation ahead of the one numbered z is waited for by a later one, none above z -/
def regUp (md : Region.Mode) (ops : Array Oper) (z : Nat) : Bool :=
  (List.range z).all fun j => (List.range (z + 1)).any fun i => decide (j < i) && match ops[i]? with
    | none => false
    | some o => o.after.toList.any fun e => Region.binds md e && e.on == j
section
variable {F : Fence} {n : Nat} {P : Program} {md : Region.Mode} {ops : Array Oper} {Q : Exit → Act → World → Prop} {z : Nat} {S : World → Prop} {az : Act}
/-- the state is as the one at the end but for what isn't listed yet -/
def Agree (ops : Array Oper) (z : Nat) (az : Act) (listed : Array Bool) (a : Act) : Prop :=
  a.defers = az.defers ∧ a.tmps.size = az.tmps.size ∧ ∀ t, (∀ j, j < z → listed.getD j true = false → (ops[j]?).bind (·.dst) ≠ some t) → a.tmps[t]? = az.tmps[t]?
theorem Agree.eval {listed : Array Bool} {a : Act} {i : Nat} {o : Oper} (hok : regOk md ops z = true) (hi : i < z) (ho : ops[i]? = some o) (hA : Agree ops z az listed a)
    (hp : ∀ e ∈ o.after, Region.binds md e = true → listed.getD e.on false = true) : ∀ x ∈ o.op.operands, a.eval x = az.eval x := by
  intro x hx
  unfold regOk at hok
  simp only [Bool.and_eq_true, decide_eq_true_eq, List.all_eq_true, List.mem_range] at hok
  have h1 := hok.2 i (by omega)
  rw [ho] at h1
  simp only [hi, if_true, Bool.and_eq_true, List.all_eq_true, Array.mem_toList_iff] at h1
  have h2 := h1.2.2 x hx
  cases x with
  | tmp t =>
    simp only [Act.eval]
    have h3 := hA.2.2 t (fun j hj hu hd => by
      simp only [List.all_eq_true, List.mem_range] at h2
      have h4 := h2 j hj
      rw [hd] at h4
      simp only [BEq.rfl, Bool.not_true, Bool.false_or, List.any_eq_true, Bool.and_eq_true, beq_iff_eq, Array.mem_toList_iff] at h4
      obtain ⟨e, he, hb, hej⟩ := h4
      have h5 := hp e he hb
      rw [hej] at h5
      rcases Nat.lt_or_ge j listed.size with h' | h'
      · simp [h'] at h5 hu; rw [hu] at h5; cases h5
      · simp [Array.getElem?_eq_none h'] at h5)
    simp only [Array.getD_eq_getD_getElem?, h3]
  | const v => rfl
  | global g => rfl
  | func f => rfl
theorem Agree.put {listed : Array Bool} {a : Act} {i : Nat} {o : Oper} {v : Value} (hls : i < listed.size) (ho : ops[i]? = some o) (hA : Agree ops z az listed a) (hv : az.put o.dst v = az) :
    Agree ops z az (listed.setIfInBounds i true) (a.put o.dst v) := by
  refine ⟨?_, ?_, ?_⟩
  · rw [← hA.1]; cases o.dst <;> rfl
  · rw [← hA.2.1]; cases o.dst <;> simp [Act.put]
  · intro t ht
    have old : (o.dst ≠ some t) → a.tmps[t]? = az.tmps[t]? := fun hne => hA.2.2 t fun j hj hu hd => by
      by_cases hji : j = i
      · subst hji; rw [ho] at hd; exact hne hd
      · exact ht j hj (by rw [getD_set_ne true (Ne.symm hji)]; exact hu) hd
    cases hd : o.dst with
    | none => simp only [Act.put]; exact old (by rw [hd]; simp)
    | some d =>
      rw [hd] at hv
      simp only [Act.put] at hv ⊢
      by_cases hdt : d = t
      · subst hdt
        have h2 : (az.tmps.setIfInBounds d v)[d]? = az.tmps[d]? := by
          have := congrArg Act.tmps hv
          simp only at this
          rw [this]
        rw [← h2]
        rw [Array.getElem?_setIfInBounds, Array.getElem?_setIfInBounds, hA.2.1]
        simp
      · rw [Array.getElem?_setIfInBounds_ne hdt]
        exact old (by rw [hd]; simp; exact hdt)
theorem wpIn_agree {a : Act} {w : World} {o : Oper} {K : Act → World → Prop} (hd : ∀ c, o.op ≠ .defer c) (hsel : ∀ cs b, o.op ≠ .select cs b) (he : ∀ x ∈ o.op.operands, a.eval x = az.eval x)
    (hK : ∀ v w', az.put o.dst v = az → S w' → K (a.put o.dst v) w')
    (h : o.wpIn F n P az w (fun a' w' => a' = az ∧ S w') (fun _ _ _ => False)) : o.wpIn F n P a w K Q := by
  have e1 := execOp_congr (ρ := a.eval) (ρ' := az.eval) o hsel he
  have e2 := about_congr (P := P) o w he
  unfold Oper.wpIn at *
  rw [Oper.semAt_eq _ _ _ hd] at *
  rw [e1, e2]
  refine ⟨h.1, ?_⟩
  have hh := h.2
  clear h
  generalize (execOp az.eval o).run P w = r at *
  cases r with
  | ok x w' =>
    cases x <;> simp only [Oper.uponIn] at hh ⊢
    case value u => exact hK u w' hh.1 hh.2
    case skip => exact hK _ w' hh.1 hh.2
    case defer d =>
      have h1 := congrArg (fun a : Act => a.defers.length) hh.1
      have h2 : ∀ (b : Act) (dst : Option Tmp) (v : Value), (b.put dst v).defers = b.defers := fun b dst v => by cases dst <;> rfl
      simp only [h2, List.length_cons] at h1
      omega
    case enter f args =>
      refine ⟨hh.1, CallsIn.mono hh.2 fun e w'' he => ?_⟩
      cases e with
      | returned u => exact hK u w'' he.1 he.2
      | panicked c => exact he.elim
      | outgrown => obtain ⟨_, _, hf⟩ := he; exact hf.elim
    case row row args => exact ⟨hh.1, RowsIn.mono hh.2 fun u w'' he => hK u w'' he.1 he.2⟩
    case round l f tmps assign body =>
      refine ⟨hh.1, RoundIn.mono hh.2 fun e w'' he => ?_⟩
      cases e with
      | returned u => exact hK u w'' he.1 he.2
      | panicked c => exact he.elim
      | outgrown => obtain ⟨_, _, hf⟩ := he; exact hf.elim
  | halt x w' =>
    cases x <;> simp only [Oper.uponIn] at hh ⊢
/-- the listed ones stay listed with all that they wait for -/
def Down (md : Region.Mode) (ops : Array Oper) (z : Nat) (listed : Array Bool) : Prop :=
  ∀ i o, i < z → ops[i]? = some o → listed.getD i true = true → ∀ e ∈ o.after, Region.binds md e = true → listed.getD e.on false = true
theorem wpAnyIn_fixed_go (hok : regOk md ops z = true) (hup : regUp md ops z = true) (listedz : Array Bool)
    (hz : ∀ j, listedz[j]? = if j < z then some true else if j < ops.size then some false else none)
    (hstep : ∀ i o, i < z → ops[i]? = some o → ∀ w, S w → o.wpIn F n P az w (fun a' w' => a' = az ∧ S w') (fun _ _ _ => False))
    (hrest : ∀ w, S w → wpAnyIn F n P md ops Q (ops.size - z) listedz az w) :
    ∀ (k : Nat) (listed : Array Bool) (a : Act) (w : World), listed.size = ops.size → ((List.range z).filter fun j => !listed.getD j true).length = k →
      (∀ i, z ≤ i → i < ops.size → listed.getD i true = false) → Down md ops z listed → Agree ops z az listed a → S w → wpAnyIn F n P md ops Q (ops.size - z + k) listed a w := by
  have hok' := hok
  unfold regOk at hok'
  simp only [Bool.and_eq_true, decide_eq_true_eq, List.all_eq_true, List.mem_range] at hok'
  obtain ⟨hzs, hall⟩ := hok'
  have hup' := hup
  unfold regUp at hup'
  simp only [List.all_eq_true, List.mem_range, List.any_eq_true, Bool.and_eq_true, decide_eq_true_eq] at hup'
  have gd : ∀ (l : Array Bool) (j : Nat), l.getD j false = true → l.getD j true = true := fun l j h => by
    rcases Nat.lt_or_ge j l.size with h' | h'
    · simp [h'] at h ⊢; exact h
    · simp [Array.getElem?_eq_none h'] at h
  -- whoever comes up is ahead of z while one of these isn't listed
  have below : ∀ (listed : Array Bool) (i : Nat), (∀ i, z ≤ i → i < ops.size → listed.getD i true = false) → Down md ops z listed → (∃ j, j < z ∧ listed.getD j true = false) → i ∈ Region.ready md ops listed → i < z := by
    intro listed i htop hdown ⟨j, hj, hjf⟩ hi
    obtain ⟨hu, o, ho, hp⟩ := mem_ready.1 hi
    have his : i < ops.size := (Array.getElem?_eq_some_iff.1 ho).1
    by_cases hiz : i < z
    · exact hiz
    exfalso
    by_cases hie : i = z
    · subst hie
      have key : ∀ m j, i - j = m → j < i → listed.getD j false = true := by
        intro m
        induction m using Nat.strongRecOn with
        | ind m ih =>
          intro j hm hj
          obtain ⟨i', hi', hji, hE⟩ := hup' j hj
          cases ho' : ops[i']? with
          | none => rw [ho'] at hE; cases hE
          | some o' =>
            rw [ho'] at hE
            simp only [List.any_eq_true, Bool.and_eq_true, beq_iff_eq, Array.mem_toList_iff] at hE
            obtain ⟨e, he, hb, hej⟩ := hE
            by_cases h0 : i' = i
            · subst h0
              rw [ho] at ho'; injection ho' with ho'; subst ho'
              rw [← hej]; exact hp e he hb
            · have h1 := ih (i - i') (by omega) i' rfl (by omega)
              rw [← hej]; exact hdown i' o' (by omega) ho' (gd _ _ h1) e he hb
      have := gd _ _ (key _ j rfl hj)
      rw [hjf] at this; cases this
    · have h1 := hall i his
      rw [ho] at h1
      simp only [hiz, if_false, hie, Bool.and_eq_true, List.any_eq_true, decide_eq_true_eq, Array.mem_toList_iff] at h1
      obtain ⟨-, e, he, ⟨hb, hze⟩, hei⟩ := h1
      have h2 := gd _ _ (hp e he hb)
      rw [htop e.on hze (by omega)] at h2
      cases h2
  intro k
  induction k with
  | zero =>
    intro listed a w hls hk htop hdown hA hS
    have hl : ∀ j, j < z → listed.getD j true = true := fun j hj => by
      have h1 := List.length_eq_zero_iff.1 hk
      have h2 := List.filter_eq_nil_iff.1 h1 j (List.mem_range.2 hj)
      simpa using h2
    have e1 : listed = listedz := by
      apply Array.ext_getElem?
      intro j
      rw [hz j]
      by_cases hj : j < z
      · have := hl j hj
        rw [if_pos hj]
        have h' : j < listed.size := by omega
        simp [h'] at this ⊢; exact this
      · rw [if_neg hj]
        by_cases hj2 : j < ops.size
        · have := htop j (by omega) hj2
          rw [if_pos hj2]
          have h' : j < listed.size := by omega
          simp [h'] at this ⊢; exact this
        · rw [if_neg hj2]; exact Array.getElem?_eq_none (by omega)
    have e2 : a = az := by
      obtain ⟨h1, h2, h3⟩ := hA
      cases a; cases az
      simp only at h1 h2 h3
      congr
      exact Array.ext_getElem? fun t => h3 t fun j hj hu => by rw [hl j hj] at hu; cases hu
    subst e1 e2
    exact hrest w hS
  | succ k ih =>
    intro listed a w hls hk htop hdown hA hS
    obtain ⟨j0, hj0⟩ : ∃ j, j ∈ (List.range z).filter fun j => !listed.getD j true := List.exists_mem_of_length_pos (by omega)
    have hex : ∃ j, j < z ∧ listed.getD j true = false := by
      rw [List.mem_filter, List.mem_range] at hj0
      exact ⟨j0, hj0.1, by simpa using hj0.2⟩
    -- somebody comes up: the first that isn't listed
    have hne : Region.ready md ops listed ≠ [] := by
      intro h0
      have key : ∀ j, j < z → listed.getD j true = true := by
        intro j
        induction j using Nat.strongRecOn with
        | ind j ihj =>
          intro hj
          by_cases hu : listed.getD j true = true
          · exact hu
          exfalso
          have ho : ∃ o, ops[j]? = some o := ⟨ops[j]'(by omega), Array.getElem?_eq_getElem (by omega)⟩
          obtain ⟨o, ho⟩ := ho
          have h1 := hall j (by omega)
          rw [ho] at h1
          simp only [hj, if_true, Bool.and_eq_true, List.all_eq_true, Array.mem_toList_iff] at h1
          have hm : j ∈ Region.ready md ops listed := mem_ready.2 ⟨by simpa using hu, o, ho, fun e he hb => by
            have h2 := h1.2.1.2 e he
            simp only [hb, Bool.not_true, Bool.false_or, decide_eq_true_eq] at h2
            have h3 := ihj e.on h2 (by omega)
            have h' : e.on < listed.size := by omega
            simp [h'] at h3 ⊢; exact h3⟩
          rw [h0] at hm
          cases hm
      obtain ⟨j, hj, hf⟩ := hex
      rw [key j hj] at hf; cases hf
    rw [show ops.size - z + (k + 1) = (ops.size - z + k) + 1 from by omega]
    refine wpAnyIn_all rfl hne fun i hi => ?_
    have hiz := below listed i htop hdown hex hi
    obtain ⟨hu, o, ho, hp⟩ := mem_ready.1 hi
    have h1 := hall i (by omega)
    rw [ho] at h1
    simp only [hiz, if_true, Bool.and_eq_true] at h1
    have hdef : ∀ c, o.op ≠ .defer c := fun c e => by simp [e] at h1
    have hsel : ∀ cs b, o.op ≠ .select cs b := fun c b e => by simp [e] at h1
    have hgd : o.guard = none := by simpa using h1.2.1.1
    have hw : Region.wanted o (yielded ops a.tmps) = true := by simp [Region.wanted, hgd]
    unfold wpOpIn
    rw [ho]
    simp only [hw, if_true]
    refine wpIn_agree hdef hsel (hA.eval hok hiz ho hp) (fun v w' hv hS' => ?_) (hstep i o hiz ho w hS)
    refine ih _ _ _ (by simpa using hls) ?_ ?_ ?_ (hA.put (by omega) ho hv) hS'
    · have hsplit : ((List.range z).filter fun j => !listed.getD j true).length = ((List.range z).filter fun j => !(listed.setIfInBounds i true).getD j true).length + 1 := by
        have hcount : ∀ (L : List Nat), L.Nodup → i ∈ L → (L.filter fun j => !listed.getD j true).length = (L.filter fun j => !(listed.setIfInBounds i true).getD j true).length + 1 := by
          intro L
          induction L with
          | nil => intro _ h; cases h
          | cons x L ihL =>
            intro hnd hm
            have hnd' := List.nodup_cons.1 hnd
            by_cases hx : x = i
            · subst hx
              have e1 : (x :: L).filter (fun j => !listed.getD j true) = x :: L.filter (fun j => !listed.getD j true) := List.filter_cons_of_pos (by simp only [hu]; rfl)
              have e2 : (listed.setIfInBounds x true).getD x true = true := by
                have h' : x < listed.size := by omega
                simp [h']
              have e3 : (x :: L).filter (fun j => !(listed.setIfInBounds x true).getD j true) = L.filter (fun j => !(listed.setIfInBounds x true).getD j true) := List.filter_cons_of_neg (by simp only [e2]; simp)
              rw [e1, e3, List.length_cons]
              congr 2
              refine List.filter_congr fun j hj => ?_
              rw [getD_set_ne true (fun e => hnd'.1 (by rw [e]; exact hj))]
            · have hm' : i ∈ L := (List.mem_cons.1 hm).resolve_left (Ne.symm hx)
              have := ihL hnd'.2 hm'
              have e2 : (listed.setIfInBounds i true).getD x true = listed.getD x true := getD_set_ne true (Ne.symm hx)
              by_cases hxu : listed.getD x true = true
              · rw [List.filter_cons_of_neg (by simp only [hxu]; simp), List.filter_cons_of_neg (by simp only [e2, hxu]; simp)]; exact this
              · have hxf : listed.getD x true = false := by simpa using hxu
                rw [List.filter_cons_of_pos (by simp only [hxf]; rfl), List.filter_cons_of_pos (by simp only [e2, hxf]; rfl), List.length_cons, List.length_cons]
                omega
        exact hcount _ List.nodup_range (List.mem_range.2 hiz)
      omega
    · intro j hj hjs
      rw [getD_set_ne true (by omega)]; exact htop j hj hjs
    · intro j o' hj ho' hl e he hb
      by_cases hji : j = i
      · subst hji
        rw [ho] at ho'; injection ho' with ho'; subst ho'
        exact getD_set_true (hp e he hb)
      · rw [getD_set_ne true (Ne.symm hji)] at hl
        exact getD_set_true (hdown j o' hj ho' hl e he hb)
/-- the first z operations, each of which yields its value in whatever world of the kind S; then the rest -/
theorem wpAnyIn_fixed (z : Nat) (S : World → Prop) (az : Act) (hok : regOk md ops z = true) (hup : regUp md ops z = true) (a : Act) (w : World) (hA : Agree ops z az (Array.replicate ops.size false) a) (hS : S w)
    (listedz : Array Bool) (hz : listedz = Array.replicate z true ++ Array.replicate (ops.size - z) false)
    (hstep : ∀ i o, i < z → ops[i]? = some o → ∀ w, S w → o.wpIn F n P az w (fun a' w' => a' = az ∧ S w') (fun _ _ _ => False))
    (hrest : ∀ w, S w → wpAnyIn F n P md ops Q (ops.size - z) listedz az w) : wpAnyIn F n P md ops Q ops.size (Array.replicate ops.size false) a w := by
  have hzs : z ≤ ops.size := by
    unfold regOk at hok
    simp only [Bool.and_eq_true, decide_eq_true_eq] at hok
    exact hok.1
  have h := wpAnyIn_fixed_go (F := F) (n := n) (P := P) (Q := Q) (S := S) (az := az) hok hup listedz (fun j => by
    rw [hz, Array.getElem?_append]
    simp only [Array.size_replicate, Array.getElem?_replicate]
    by_cases hj : j < z
    · simp [hj]
    · simp only [hj, if_false]
      by_cases h2 : j < ops.size
      · rw [if_pos (by omega), if_pos h2]
      · rw [if_neg (by omega), if_neg h2]) hstep hrest z (Array.replicate ops.size false) a w (by simp) (by
      rw [List.filter_eq_self.2]
      · simp
      · intro j hj
        have hj := List.mem_range.1 hj
        have h' : j < ops.size := by omega
        simp [h']) (fun i _ h2 => by simp [h2]) (fun i o hi ho hl => by
        have h' : i < ops.size := by omega
        simp [h'] at hl) hA hS
  rwa [show ops.size - z + z = ops.size from by omega] at h
/-- the values of the operations from the one numbered i on, put one after another -/
def putsOf (ops : Array Oper) : Nat → List Value → Act → Act
  | _, [], a => a
  | i, v :: vs, a => putsOf ops (i + 1) vs (a.put ((ops[i]?).bind (·.dst)) v)
theorem putsOf_spec (ops : Array Oper) : ∀ (vs : List Value) (i : Nat) (a : Act), (putsOf ops i vs a).defers = a.defers ∧ (putsOf ops i vs a).tmps.size = a.tmps.size ∧ ∀ t, (∀ j, i ≤ j → j < i + vs.length → (ops[j]?).bind (·.dst) ≠ some t) → (putsOf ops i vs a).tmps[t]? = a.tmps[t]? := by
  intro vs
  induction vs with
  | nil => intro i a; exact ⟨rfl, rfl, fun _ _ => rfl⟩
  | cons v vs ih =>
    intro i a
    obtain ⟨h1, h2, h3⟩ := ih (i + 1) (a.put ((ops[i]?).bind (·.dst)) v)
    unfold putsOf
    refine ⟨?_, ?_, ?_⟩
    · rw [h1]; cases (ops[i]?).bind (·.dst) <;> rfl
    · rw [h2]; cases (ops[i]?).bind (·.dst) <;> simp [Act.put]
    · intro t ht
      rw [h3 t (fun j hj hj2 => ht j (by omega) (by simp; omega))]
      have h0 := ht i (Nat.le_refl _) (by simp)
      cases hd : (ops[i]?).bind (·.dst) with
      | none => rfl
      | some d =>
        rw [hd] at h0
        simp only [Act.put]
        exact Array.getElem?_setIfInBounds_ne (fun e => h0 (by rw [e]))
def Steps (F : Fence) (n : Nat) (P : Program) (ops : Array Oper) (S : World → Prop) (az : Act) (L : List Nat) : Prop :=
  ∀ i ∈ L, ∀ o, ops[i]? = some o → ∀ w, S w → o.wpIn F n P az w (fun a' w' => a' = az ∧ S w') (fun _ _ _ => False)
theorem Steps.nil : Steps F n P ops S az [] := fun _ h => by cases h
theorem Steps.cons {i : Nat} {L : List Nat} {o : Oper} (ho : ops[i]? = some o) (h : ∀ w, S w → o.wpIn F n P az w (fun a' w' => a' = az ∧ S w') (fun _ _ _ => False)) (hs : Steps F n P ops S az L) : Steps F n P ops S az (i :: L) := by
  intro j hj o' ho'
  rcases List.mem_cons.1 hj with rfl | hj
  · rw [ho] at ho'; injection ho' with ho'; subst ho'; exact h
  · exact hs j hj o' ho'
/-- the first operations, each of which yields its value in whatever world of the kind S (vs: the values); then the rest -/
theorem wpAnyIn_vals (zl : List Nat) (vs : List Value) (S : World → Prop) (a az : Act) (w : World) (haz : putsOf ops 0 vs a = az) (hok : regOk md ops vs.length = true) (hup : regUp md ops vs.length = true) (hS : S w)
    (listedz : Array Bool) (hz : listedz = Array.replicate vs.length true ++ Array.replicate (ops.size - vs.length) false)
    (hzl : List.range vs.length = zl) (hstep : Steps F n P ops S az zl)
    (hrest : ∀ w, S w → wpAnyIn F n P md ops Q (ops.size - vs.length) listedz az w) : wpAnyIn F n P md ops Q ops.size (Array.replicate ops.size false) a w := by
  subst hzl
  obtain ⟨h1, h2, h3⟩ := putsOf_spec ops vs 0 a
  rw [haz] at h1 h2 h3
  have hzs : vs.length ≤ ops.size := by
    unfold regOk at hok
    simp only [Bool.and_eq_true, decide_eq_true_eq] at hok
    exact hok.1
  refine wpAnyIn_fixed vs.length S az hok hup a w ⟨h1.symm, h2.symm, fun t ht => (h3 t fun j _ hj => ht j (by omega) ?_).symm⟩ hS listedz hz (fun i o hi => hstep i (List.mem_range.2 hi) o) hrest
  have h' : j < ops.size := by omega
  simp [h']
end
end Go.Proofs.Ytcjnmconehfbgaa
namespace Go.Proofs.Ytcjnmconehfbgaa
open Go.RowKit Go.Shelf NP
set_option maxRecDepth 8000
set_option linter.unusedVariables false
set_option linter.unusedSimpArgs false
attribute [local go_sem] Oper.semAt_some
def bump (row : List Int) (r : Nat) : List Int := row.set r (row.getD r 0 + 1)
/-- how many numbers leave each remainder when divided by m -/
def sprd (m : Nat) (rs : List Int) : List Int := rs.foldl (fun row r => bump row (r % (m : Int)).toNat) (List.replicate m 0)
theorem sprd_snoc (m : Nat) (rs : List Int) (r : Int) : sprd m (rs ++ [r]) = bump (sprd m rs) (r % (m : Int)).toNat := by
  unfold sprd; rw [List.foldl_append]; rfl
theorem bump_len (row : List Int) (r : Nat) : (bump row r).length = row.length := by simp [bump]
theorem sprd_all (m : Nat) : ∀ (rs row : List Int) (k : Nat), (∀ x ∈ row, 0 ≤ x ∧ x ≤ (k : Int)) → (rs.foldl (fun row r => bump row (r % (m : Int)).toNat) row).length = row.length ∧ ∀ x ∈ rs.foldl (fun row r => bump row (r % (m : Int)).toNat) row, 0 ≤ x ∧ x ≤ (k : Int) + rs.length := by
  intro rs
  induction rs with
  | nil => intro row k h; exact ⟨rfl, fun x hx => by have := h x hx; simp; omega⟩
  | cons r rs ih =>
    intro row k h
    have hb : ∀ x ∈ bump row (r % (m : Int)).toNat, 0 ≤ x ∧ x ≤ ((k + 1 : Nat) : Int) := by
      intro x hx
      unfold bump at hx
      rcases List.mem_or_eq_of_mem_set hx with h1 | h1
      · have := h x h1; omega
      · subst h1
        by_cases hr : (r % (m : Int)).toNat < row.length
        · have e : row.getD (r % (m : Int)).toNat 0 = row[(r % (m : Int)).toNat] := by simp [List.getD_eq_getElem?_getD, hr]
          rw [e]
          have := h _ (List.getElem_mem hr)
          omega
        · have e : row.getD (r % (m : Int)).toNat 0 = 0 := by simp [List.getD_eq_getElem?_getD, List.getElem?_eq_none (Nat.le_of_not_lt hr)]
          rw [e]; omega
    obtain ⟨h1, h2⟩ := ih _ (k + 1) hb
    rw [List.foldl_cons]
    refine ⟨by rw [h1, bump_len], fun x hx => ?_⟩
    have := h2 x hx
    rw [List.length_cons]
    omega
theorem sprd_len (m : Nat) (rs : List Int) : (sprd m rs).length = m := by
  have := (sprd_all m rs (List.replicate m 0) 0 (fun x hx => by rw [(List.mem_replicate.1 hx).2]; simp)).1
  unfold sprd; simpa using this
theorem sprd_bd (m : Nat) (rs : List Int) : ∀ x ∈ sprd m rs, 0 ≤ x ∧ x ≤ (rs.length : Int) := by
  have := (sprd_all m rs (List.replicate m 0) 0 (fun x hx => by rw [(List.mem_replicate.1 hx).2]; simp)).2
  unfold sprd; simpa using this
theorem rem_bd (r : Int) (m : Nat) (hm : 1 ≤ m) : 0 ≤ r % (m : Int) ∧ r % (m : Int) < m := ⟨Int.emod_nonneg _ (by omega), Int.emod_lt_of_pos _ (by omega)⟩
theorem tmod_bd (r : Int) (m : Nat) (hm : 1 ≤ m) : -(m : Int) < Int.tmod r m ∧ Int.tmod r m < m := by
  have h1 := Int.tmod_lt_of_pos r (show (0 : Int) < m by omega)
  have h2 := Int.lt_tmod_of_pos r (show (0 : Int) < m by omega)
  omega
theorem tmod_twice (r : Int) (m : Nat) (hm : 1 ≤ m) : Int.tmod (Int.tmod r m + m) m = r % (m : Int) := by
  have h := tmod_bd r m hm
  rw [Int.tmod_eq_emod_of_nonneg (show (0 : Int) ≤ Int.tmod r m + m by omega), Int.add_emod_right]
  have h1 := Int.tmod_add_mul_tdiv r m
  conv => rhs; rw [← h1]
  rw [Int.add_mul_emod_self_left]
theorem wrap_id (x : Int) (h : -100000 ≤ x) (h2 : x ≤ 100000) : IntKind.i64.wrap x = x := by unfold IntKind.wrap; simp [IntKind.signed, IntKind.bits]; omega
theorem remainder_any (r : Int) (m : Nat) (hm : 1 ≤ m) (hm2 : m ≤ 16) (w : World) :
    Calls Try.prog 75 #[.int .i64 r, .int .i64 (m : Int)] w fun e w' => e = .returned (.int .i64 (r % (m : Int))) ∧ w = w' := by
  have hb := tmod_bd r m hm
  have hb2 := rem_bd r m hm
  have h2 := tmod_twice r m hm
  obtain ⟨q, hq⟩ : ∃ q, Int.tmod r m = q := ⟨_, rfl⟩
  obtain ⟨p, hp⟩ : ∃ p, r % (m : Int) = p := ⟨_, rfl⟩
  rw [hq] at hb h2
  rw [hp] at hb2 h2 ⊢
  have hm0 : (m : Int) ≠ 0 := by omega
  go_enter Try.func75, Try.ntmps75
  go_wp2
  go_ret
  exact ⟨rfl, rfl⟩
/-- a function value that tells of each diagram of parts a number, in every later world -/
def IsM (w : World) (v : Value) (f : List Int → Int) : Prop := ∃ (g : Nat) (p c : Array Value), v = .func (.func g) p c ∧ (∀ (args : Array Value) (w : World), (callFunc g args).run Try.prog w = .ok (.enter g args) w) ∧ ∀ w1, Below w.heap.size w w1 → ∀ L, valid L = true →
  Calls Try.prog g (p.push (.agg (arr (pad L))) ++ c) w1 fun e w2 => e = .returned (.int .i64 (f L)) ∧ Below w1.heap.size w1 w2
/-- the memory of a round: the number m, the measure, the row of counts and its place -/
def IS (w : World) (m : Nat) (f : List Int → Int) (fv : Value) (pre : List VL) (W : World) : Prop :=
  Blk W w.heap.size 3 #[.int .i64 (m : Int)] ∧ Blk W (w.heap.size + 1) 51 #[fv] ∧ Blk W (w.heap.size + 2) 3 (arr (sprd m (pre.map fun x => f x.1))) ∧ Blk W (w.heap.size + 3) 22 #[.slice (some ⟨w.heap.size + 2, 0, none⟩) m m] ∧ Below w.heap.size w W
theorem is_from (w : World) (m : Nat) (f : List Int → Int) (fv : Value) (B : Nat) (hB : w.heap.size ≤ B) : OwnFrom B (IS w m f fv) := by
  rintro s W W' row ⟨h1, h2, h3, h4, h5⟩ hg hr
  have ne : ∀ (g : Nat) (cs : Array Value) (t : TypeId), W.heap[g]? = some (.cells cs t (0, 0)) → some g ≠ row := fun g cs t hc e => by
    obtain ⟨_, o, ho, hc'⟩ := hr g e.symm
    rw [hc] at ho; injection ho with ho; subst ho; simp [Obj.isCells] at hc'
  exact ⟨h1.grown hg (ne _ _ _ h1), h2.grown hg (ne _ _ _ h2), h3.grown hg (ne _ _ _ h3), h4.grown hg (ne _ _ _ h4), h5.grown hg h5.size (fun k e => Nat.le_trans hB (hr k e).1)⟩
theorem is_abt (w : World) (m : Nat) (f : List Int → Int) (fv : Value) (B : Nat) (hB : w.heap.size ≤ B) : AbT B 54 (IS w m f fv) := by
  refine ⟨?_, ?_, ?_⟩
  · rintro s W o ⟨h1, h2, h3, h4, h5⟩
    exact ⟨h1.alloc o, h2.alloc o, h3.alloc o, h4.alloc o, h5.alloc h5.size o⟩
  · rintro s W n ⟨h1, h2, h3, h4, h5⟩
    exact ⟨h1, h2, h3, h4, h5.trans ((Dr.n W n).below _)⟩
  · rintro s W b i u cs fr ⟨h1, h2, h3, h4, h5⟩ hb hc
    have ne : ∀ (g : Nat) (cs' : Array Value) (t : TypeId), t ≠ 54 → W.heap[g]? = some (.cells cs' t (0, 0)) → g ≠ b := fun g cs' t ht hg e => by
      subst e; rw [hc] at hg; injection hg with hg; injection hg with _ hg _; exact ht hg.symm
    exact ⟨h1.off (ne _ _ _ (by decide) h1) _, h2.off (ne _ _ _ (by decide) h2) _, h3.off (ne _ _ _ (by decide) h3) _, h4.off (ne _ _ _ (by decide) h4) _, h5.setCell (p := ⟨b, i, none⟩) (Nat.le_trans hB hb) u⟩
theorem is_below {w : World} {m : Nat} {f : List Int → Int} {fv : Value} {pre : List VL} {W W' : World} (h : IS w m f fv pre W) (hb : Below W.heap.size W W') : IS w m f fv pre W' :=
  ⟨h.1.below hb h.1.lt, h.2.1.below hb h.2.1.lt, h.2.2.1.below hb h.2.2.1.lt, h.2.2.2.1.below hb h.2.2.2.1.lt, h.2.2.2.2.trans (hb.mono h.2.2.2.2.size)⟩
/-- the count of one remainder goes up -/
theorem is_bump {w : World} {m : Nat} {f : List Int → Int} {fv : Value} {pre : List VL} {x : VL} {W W' : World} (h : IS w m f fv pre W) (h' : IS w m f fv pre W') (hz : W.heap.size ≤ W'.heap.size) (hkp : ∀ j, j < W.heap.size → W'.heap[j]? = W.heap[j]?) :
    KeepsOthers W (W'.setCell ⟨w.heap.size + 2, (f x.1 % (m : Int)).toNat, none⟩ (.int .i64 ((sprd m (pre.map fun x => f x.1)).getD (f x.1 % (m : Int)).toNat 0 + 1))) ∧ KpT 54 W (W'.setCell ⟨w.heap.size + 2, (f x.1 % (m : Int)).toNat, none⟩ (.int .i64 ((sprd m (pre.map fun x => f x.1)).getD (f x.1 % (m : Int)).toNat 0 + 1))) ∧ IS w m f fv (pre ++ [x]) (W'.setCell ⟨w.heap.size + 2, (f x.1 % (m : Int)).toNat, none⟩ (.int .i64 ((sprd m (pre.map fun x => f x.1)).getD (f x.1 % (m : Int)).toNat 0 + 1))) := by
  obtain ⟨k1, k2, k3, k4, k5⟩ := h
  obtain ⟨h1, h2, h3, h4, h5⟩ := h'
  have hs : ∀ (p : Addr) (u : Value), (W'.setCell p u).heap.size = W'.heap.size := fun p u => by simp [World.setCell]
  have hk : ∀ (i : Nat) (u : Value) j, j < W.heap.size → j ≠ w.heap.size + 2 → (W'.setCell ⟨w.heap.size + 2, i, none⟩ u).heap[j]? = W.heap[j]? := fun i u j hj hne => (Below.heap_setCell W' ⟨w.heap.size + 2, i, none⟩ u j hne).trans (hkp j hj)
  refine ⟨⟨by rw [hs]; exact hz, fun j o hj ho => (hk _ _ j (Array.getElem?_eq_some_iff.1 hj).1 ?_).trans hj⟩, ⟨by rw [hs]; exact hz, fun b cs fr hb => (hk _ _ b (Array.getElem?_eq_some_iff.1 hb).1 ?_).trans hb⟩, ?_⟩
  · rintro rfl
    rw [show W.heap[w.heap.size + 2]? = _ from k3] at hj; injection hj with hj; subst hj; simp [Obj.isCells] at ho
  · rintro rfl
    rw [show W.heap[w.heap.size + 2]? = _ from k3] at hb; injection hb with hb; injection hb with _ hb _; exact absurd hb (by decide)
  · refine ⟨h1.off (by simp) _, h2.off (by simp) _, ?_, h4.off (by simp) _, h5.setCell (p := ⟨w.heap.size + 2, _, none⟩) (by simp) _⟩
    rw [List.map_append, List.map_singleton, sprd_snoc]
    unfold bump
    rw [← arr_set]
    exact h3.set _ _
theorem is_start (w : World) (m : Nat) (f : List Int → Int) (fv : Value) :
    IS w m f fv [] ((((w.alloc (.cells #[.int .i64 (m : Int)] 3)).alloc (.cells #[fv] 51)).alloc (.cells (arr (List.replicate m 0)) 3)).alloc (.cells #[.slice (some ⟨w.heap.size + 1 + 1, 0, none⟩) m m] 22)) := by
  have b1 := Blk.new w 3 #[.int .i64 (m : Int)]
  have b2 := Blk.new (w.alloc (.cells #[.int .i64 (m : Int)] 3)) 51 #[fv]
  have b3 := Blk.new ((w.alloc (.cells #[.int .i64 (m : Int)] 3)).alloc (.cells #[fv] 51)) 3 (arr (List.replicate m 0))
  have b4 := Blk.new (((w.alloc (.cells #[.int .i64 (m : Int)] 3)).alloc (.cells #[fv] 51)).alloc (.cells (arr (List.replicate m 0)) 3)) 22 #[.slice (some ⟨w.heap.size + 1 + 1, 0, none⟩) m m]
  simp only [World.size_alloc] at b1 b2 b3 b4
  exact ⟨((b1.alloc _).alloc _).alloc _, (b2.alloc _).alloc _, b3.alloc _, b4, ((((Below.refl _ _).alloc (Nat.le_refl _) _).alloc (by simp) _).alloc (by simp; omega) _).alloc (by simp; omega) _⟩
def AxS (w : World) (k m : Nat) (fv : Value) (x : VL) (a' : Act) (W : World) : Prop := ∃ Bx, w.heap.size + 1 + 1 + 1 + 1 ≤ Bx ∧ Blk W Bx 54 (arr (pad x.1)) ∧
  a' = { tmps := #[.int .i64 k, .int .i64 m, fv, undef, .pointer (some ⟨w.heap.size, 0, none⟩), .pointer (some ⟨w.heap.size + 1, 0, none⟩), .slice none 0 0, .pointer (some ⟨w.heap.size + 1 + 1 + 1, 0, none⟩), .pointer (some ⟨Bx, 0, none⟩), .int .i64 k,
    .bool false, .bool false, .int .i64 k, .bool false, .bool false, .bool false, .int .i64 m, .bool false, .bool false, .bool false, .int .i64 m, .bool false, .bool false, .int .i64 m, .slice (some ⟨w.heap.size + 1 + 1, 0, none⟩) m m, .int .i64 k,
    .func (.func 91) #[] #[.pointer (some ⟨w.heap.size + 1 + 1 + 1 + 1, 0, none⟩)], .agg (arr (pad x.1)), undef, undef, undef, undef, undef, undef, undef, undef, undef, undef, undef], defers := [] }
set_option maxRecDepth 100000 in
set_option maxHeartbeats 4000000 in
theorem spread_any (k m : Nat) (hk : k ≤ 12) (hm : 1 ≤ m) (hm2 : m ≤ 16) (fv : Value) (f : List Int → Int) (w : World) (hfv : IsM w fv f) :
    Calls Try.prog 49 #[.int .i64 (k : Int), .int .i64 (m : Int), fv] w fun e w' => ∃ a' c', e = .returned (.slice a' m c') ∧ Own w' w.heap.size w'.heap.size 3 (.slice a' m c') (ints (sprd m ((allQ k k k).map f))) ∧ Below w.heap.size w w' := by
  refine (callsIn_wide (n := 6)).1 ?_
  obtain ⟨ff, fp, fc, rfl, he, hh⟩ := hfv
  have hmk := fun w => run_make_ints (P := Try.prog) 22 3 _ Try.underlying22 rfl rfl rfl rfl m (by omega) w
  have d1 : decide ((k : Int) < 0) = false := decide_eq_false (by omega)
  have d2 : decide (12 < (k : Int)) = false := decide_eq_false (by omega)
  have d3 : decide ((m : Int) < 1) = false := decide_eq_false (by omega)
  have d4 : decide (16 < (m : Int)) = false := decide_eq_false (by omega)
  refine callsIn_of_wp_marks Try.func49 rfl trivial ?_ rfl
  simp only [Try.ntmps49, List.size_toArray, List.length_cons, List.length_nil, Nat.reduceAdd, Nat.reduceSub, Array.replicate_succ, Array.replicate_zero, List.push_toArray, List.append_toArray, List.nil_append, List.cons_append]
  gi_wp2_with ((refine ⟨trivial, ?_⟩; gi_at_call 74; refine (dwith_in Fence.wide _ trivial rfl _ _).mono ?_; rintro e w' ⟨rfl, rfl⟩))
  obtain ⟨W1, hW1⟩ : ∃ W1, ((((w.alloc (.cells #[.int .i64 m] 3)).alloc (.cells #[.func (.func ff) fp fc] 51)).alloc (.cells (arr (List.replicate m 0)) 3)).alloc (.cells #[.slice (some ⟨w.heap.size + 1 + 1, 0, none⟩) m m] 22)) = W1 := ⟨_, rfl⟩
  rw [hW1]
  have hs1 : W1.heap.size = w.heap.size + 1 + 1 + 1 + 1 := by rw [← hW1]; simp
  have hI1 : IS w m f (.func (.func ff) fp fc) [] W1 := by rw [← hW1]; exact is_start w m f _
  have hI0 : IS w m f (.func (.func ff) fp fc) [] (W1.alloc (.cells #[.int .i64 (k : Int)] 3)) := is_below hI1 ((Below.refl _ _).alloc (Nat.le_refl _) _)
  have hbn : (W1.alloc (.cells #[.int .i64 (k : Int)] 3)).cell? ⟨w.heap.size + 1 + 1 + 1 + 1, 0, none⟩ = some (.int .i64 k) := by
    rw [← hs1, (Blk.new W1 3 #[.int .i64 (k : Int)]).cell 0]; rfl
  obtain ⟨W0, hW0⟩ : ∃ W0, W1.alloc (.cells #[.int .i64 (k : Int)] 3) = W0 := ⟨_, rfl⟩
  have hs0 : W0.heap.size = w.heap.size + 5 := by rw [← hW0]; simp [hs1]
  rw [hW0] at hI0 hbn ⊢
  clear hI1 hW1 hs1 hW0 hmk d1 d2 d3 d4
  refine wpIn_range_T 54 rfl (by omega) (gf := 91) (lb := #[.pointer (some ⟨w.heap.size + 1 + 1 + 1 + 1, 0, none⟩)]) rfl trivial (enters_of Try.func91 (by kernel_rfl) rfl)
    (dwith_seq Fence.wide rfl trivial trivial rfl (6 - 1) k (w.heap.size + 1 + 1 + 1 + 1) (by omega) W0 (by omega) hbn) (Below.refl _ _) (fun _ => rfl)
    (IS w m f (.func (.func ff) fp fc)) (fun _ _ _ => False) (is_from w m f _ _ (by omega)) (fun _ _ _ _ _ h _ _ => h) (is_abt w m f _ _ (by omega)) (fun _ => ⟨fun _ _ _ h => h, fun _ _ _ h => h, fun _ _ _ _ _ _ _ h _ _ => h⟩) hI0
    (AxS w k m (.func (.func ff) fp fc)) ?hax ?assign ?body ?done ?stop
  case hax =>
    rintro a' s W W' row ⟨Bx, hBx, hb, rfl⟩ hg hr
    refine ⟨Bx, hBx, hb.grown hg (fun e => ?_), rfl⟩
    obtain ⟨_, o, ho, hc⟩ := hr Bx e.symm
    rw [show W.heap[Bx]? = _ from hb] at ho; injection ho with ho; subst ho; simp [Obj.isCells] at hc
  case assign =>
    intro l pre x W K hi hK
    have hlen : x.1.length ≤ 16 := (valid_bd x.2).2.2.2
    have hi16 : (Try.prog.info? 54).map (·.size) = some (arr (pad x.1)).size := by rw [arr_size, pad_len hlen]; exact T_info35
    have hszx : (arr (pad x.1)).size = (arr (List.replicate 16 0)).size := by rw [arr_size, arr_size, pad_len hlen]; rfl
    have hbz := Blk.new W 54 (arr (List.replicate 16 0))
    have hbw : Below W.heap.size W ((W.alloc (.cells (arr (List.replicate 16 0)) 54)).setRow W.heap.size (arr (pad x.1))) := below_setRow' ((Below.refl _ _).alloc (Nat.le_refl _) _) (Nat.le_refl _) _
    have hlt := hi.2.2.2.1.lt
    gi_wp2_with (refine wpListIn_store_row rfl 54 (.tmp 8) (.tmp 27) rfl W.heap.size (arr (pad x.1)) rfl rfl (run_storeVar_row _ W.heap.size 54 54 _ _ hbz hi16 hszx (arr_one _)) ?_)
    exact hK _ _ (ko_below hbw) (KpT.below hbw) (is_below hi hbw) ⟨W.heap.size, by omega, hbz.row, rfl⟩
  case body =>
    rintro l pre x a' W hIS ⟨Bx, hBx, hbx, rfl⟩ hlen
    have hpl : x.1.length ≤ 16 := (valid_bd x.2).2.2.2
    have hi16 : (Try.prog.info? 54).map (·.size) = some (arr (pad x.1)).size := by rw [arr_size, pad_len hpl]; exact T_info35
    have hmx : Try.prog.follows .mixedOrders = true := by kernel_rfl
    have hrb := rem_bd (f x.1) m hm
    obtain ⟨r, hr⟩ : ∃ r : Nat, f x.1 % (m : Int) = (r : Int) := ⟨(f x.1 % (m : Int)).toNat, by omega⟩
    have hrm : r < m := by omega
    have hprn : pre.length ≤ 1000 := by have := allQ_len (k := k) (by omega); omega
    have hlr := sprd_len m (pre.map fun x => f x.1)
    have hbr := sprd_bd m (pre.map fun x => f x.1)
    have hbump := @is_bump w m f (.func (.func ff) fp fc) pre x
    rw [hr, Int.toNat_natCast] at hbump
    obtain ⟨row, hrow⟩ : ∃ row, sprd m (pre.map fun x => f x.1) = row := ⟨_, rfl⟩
    rw [hrow] at hlr hbr hbump
    have hv : row.getD r 0 = row[r] := by simp [List.getD_eq_getElem?_getD, hlr, hrm]
    have hvb := hbr _ (List.getElem_mem (show r < row.length by omega))
    rw [hv] at hbump
    obtain ⟨v, hvv⟩ : ∃ v, row[r] = v := ⟨_, rfl⟩
    rw [hvv] at hbump hvb
    rw [List.length_map] at hvb
    have hv0 : 0 ≤ v := hvb.1
    have hv1 : v ≤ 1000 := by omega
    have hwr := wrap_id (v + 1) (by omega) (by omega)
    gi_wp2
    refine wpIn_region_any hmx ?_
    have vok : (∃ y, { W with drawn := W.drawn + 1 } = y ∧ Below W.heap.size W y) := ⟨_, rfl, (Dr.n W 1).below _⟩
    obtain ⟨y, hy, hyb⟩ := vok
    rw [hy]
    clear hy
    refine wpAnyIn_vals [0, 1, 2, 3, 4, 5, 6, 7, 8, 9] [.slice (some ⟨w.heap.size + 1 + 1, 0, none⟩) m m, .func (.func ff) fp fc, .agg (arr (pad x.1)), .int .i64 (f x.1), .int .i64 m, .int .i64 r, .pointer (some ⟨w.heap.size + 1 + 1, r, none⟩), .int .i64 v, .int .i64 (v + 1), .pointer (some ⟨w.heap.size + 1 + 1, r, none⟩)] (fun w' => Below W.heap.size W w') _ _ y rfl (by kernel_rfl) (by kernel_rfl) hyb _ rfl rfl ?steps ?rest
    case steps =>
      simp only [putsOf, Act.put, List.getElem?_toArray, List.getElem?_cons_succ, List.getElem?_cons_zero, Option.bind_some, Nat.reduceAdd, List.setIfInBounds_toArray, List.set_cons_zero, List.set_cons_succ]
      refine Steps.cons rfl (fun wq hS => ?_) ?_
      · have hc : wq.cell? ⟨w.heap.size + 1 + 1 + 1, 0, none⟩ = some (.slice (some ⟨w.heap.size + 1 + 1, 0, none⟩) m m) := (is_below hIS hS).2.2.2.1.cell 0
        exact opIn_val (by simp [Oper.about]) (by go_simp) ⟨rfl, hS⟩
      refine Steps.cons rfl (fun wq hS => ?_) ?_
      · have hc : wq.cell? ⟨w.heap.size + 1, 0, none⟩ = some (.func (.func ff) fp fc) := (is_below hIS hS).2.1.cell 0
        exact opIn_val (by simp [Oper.about]) (by go_simp) ⟨rfl, hS⟩
      refine Steps.cons rfl (fun wq hS => ?_) ?_
      · have hld := run_loadVar_row wq Bx 54 54 (arr (pad x.1)) (0, 0) _ (hbx.below hS hbx.lt) Try.underlying54 rfl hi16
        exact opIn_loadv 54 (.tmp 8) rfl ⟨Bx, 0, none⟩ rfl hld ⟨rfl, hS⟩
      refine Steps.cons rfl (fun wq hS => ?_) ?_
      · go_simp
        refine ⟨trivial, ?_⟩
        refine (CallsIn.inRound l (callsIn_wide.2 (hh wq (hIS.2.2.2.2.trans (hS.mono hIS.2.2.2.2.size)) x.1 x.2))).mono ?_
        rintro e W2 ⟨rfl, hb2⟩
        exact ⟨rfl, hS.trans (hb2.mono hS.size)⟩
      refine Steps.cons rfl (fun wq hS => ?_) ?_
      · have hc : wq.cell? ⟨w.heap.size, 0, none⟩ = some (.int .i64 m) := (is_below hIS hS).1.cell 0
        exact opIn_val (by simp [Oper.about]) (by go_simp) ⟨rfl, hS⟩
      refine Steps.cons rfl (fun wq hS => ?_) ?_
      · go_simp
        refine ⟨trivial, ?_⟩
        gi_at_call 75
        refine (CallsIn.inRound l (callsIn_wide.2 (remainder_any (f x.1) m hm hm2 wq))).mono ?_
        rintro e W2 ⟨rfl, rfl⟩
        rw [hr]
        exact ⟨rfl, hS⟩
      refine Steps.cons rfl (fun wq hS => ?_) ?_
      · exact opIn_val (by simp [Oper.about]) (by go_simp) ⟨rfl, hS⟩
      refine Steps.cons rfl (fun wq hS => ?_) ?_
      · have hc : wq.cell? ⟨w.heap.size + 1 + 1, r, none⟩ = some (.int .i64 v) := by
          rw [(is_below hIS hS).2.2.1.cell r, hrow, arr_get _ _ (by omega), hvv]
        exact opIn_val (by simp [Oper.about]) (by go_simp) ⟨rfl, hS⟩
      refine Steps.cons rfl (fun wq hS => ?_) ?_
      · exact opIn_val (by simp [Oper.about]) (by go_simp) ⟨rfl, hS⟩
      refine Steps.cons rfl (fun wq hS => ?_) Steps.nil
      · exact opIn_val (by simp [Oper.about]) (by go_simp) ⟨rfl, hS⟩
    case rest =>
      intro wq hS
      simp only [putsOf, Act.put, List.getElem?_toArray, List.getElem?_cons_succ, List.getElem?_cons_zero, Option.bind_some, Nat.reduceAdd, List.setIfInBounds_toArray, List.set_cons_zero, List.set_cons_succ]
      refine wpAnyIn_ready (rs := [10]) (by kernel_rfl) (by simp) ?_
      refine AllReadyIn.cons rfl (fun K hK => ?_) AllReadyIn.nil
      rw [if_pos (by rfl)]
      have hISq := is_below hIS hS
      have hc : wq.cell? ⟨w.heap.size + 1 + 1, r, none⟩ = some (.int .i64 v) := by
        rw [hISq.2.2.1.cell r, hrow, arr_get _ _ (by omega), hvv]
      have hfz := hISq.2.2.1.free r
      refine opIn_store 3 (.tmp 37) (.tmp 36) rfl ⟨w.heap.size + 1 + 1, r, none⟩ rfl (w' := wq.setCell ⟨w.heap.size + 1 + 1, r, none⟩ (.int .i64 (v + 1))) (by have hq := hc; have hq' : wq.frozen? ⟨w.heap.size + 1 + 1, r, none⟩ = false := hfz; go_simp) ?_
      refine hK _ _ ?_
      clear hK K
      refine wpAnyIn_done (by kernel_rfl) ?_ _
      exact hbump hIS hISq hS.size (fun j hj => hS.block j hj)
  case done => 
    rintro D ys W hD hS hIS hK
    have hIS2 := (is_from w m f (.func (.func ff) fp fc) w.heap.size (Nat.le_refl _)).putObj (.deferred none) hIS (by omega) hK rfl
    obtain ⟨h1, h2, h3, h4, hB⟩ := hIS
    obtain ⟨-, -, h32, h42, hB2⟩ := hIS2
    have c7 : W.cell? ⟨w.heap.size + 1 + 1 + 1, 0, none⟩ = some (.slice (some ⟨w.heap.size + 1 + 1, 0, none⟩) m m) := h4.cell 0
    gi_wp2
    refine ⟨by simp, .inl ⟨_, _, rfl, run_takeDeferred hK, ?_⟩⟩
    have hmap : (ys.map fun x => f x.1) = (allQ k k k).map f := by rw [← hS, List.map_map]; rfl
    rw [hmap] at h32
    have hown := h32.own (lo := w.heap.size) (by omega) (by rw [List.length_map, sprd_len]; unfold maxLen; omega)
    rw [List.length_map, sprd_len] at hown
    exact ⟨_, results_tmp rfl _ _ _, _, m, rfl, hown, hB2⟩
  case stop =>
    rintro D c pre W _ _ h _
    exact h.elim
end Go.Proofs.Ytcjnmconehfbgaa
namespace Go.Proofs.Ytcjnmconehfbgaa
namespace NP
/-- the bits of summands: whether one ends -/
def toB : List Int → List Bool
  | [] => []
  | [x] => List.replicate (x - 1).toNat false
  | x :: y :: r => List.replicate (x - 1).toNat false ++ true :: toB (y :: r)
/-- 1 more for the first -/
def bump : List Int → List Int
  | [] => []
  | x :: r => (x + 1) :: r
/-- the summands of bits -/
def ofB : List Bool → List Int
  | [] => [1]
  | true :: b => 1 :: ofB b
  | false :: b => bump (ofB b)
def addHd (r : Int) : List Int → List Int
  | [] => [r]
  | x :: t => (r + x) :: t
def bval : List Bool → Nat
  | [] => 0
  | b :: r => (if b then 1 else 0) + 2 * bval r
def bitsN (m : Nat) : Nat → List Bool
  | 0 => []
  | k + 1 => bitsN m k ++ [decide (m / 2 ^ k % 2 = 1)]

theorem ofB_ne (b : List Bool) : ∃ x r, ofB b = x :: r := by
  induction b with
  | nil => exact ⟨1, [], rfl⟩
  | cons c b ih =>
    obtain ⟨x, r, h⟩ := ih
    cases c with
    | true => exact ⟨1, ofB b, rfl⟩
    | false => exact ⟨x + 1, r, by simp [ofB, h, bump]⟩
theorem ofB_sum (b : List Bool) : sumL (ofB b) = b.length + 1 := by
  induction b with
  | nil => rfl
  | cons c b ih =>
    cases c with
    | true => simp [ofB, sumL, ih]; omega
    | false =>
      obtain ⟨x, r, h⟩ := ofB_ne b
      simp [ofB, h, bump, sumL] at ih ⊢
      omega
theorem ofB_pos (b : List Bool) : ∀ x ∈ ofB b, 1 ≤ x := by
  induction b with
  | nil => intro x hx; simp [ofB] at hx; omega
  | cons c b ih =>
    intro x hx
    cases c with
    | true =>
      simp [ofB] at hx
      rcases hx with hx | hx
      · omega
      · exact ih x hx
    | false =>
      obtain ⟨y, r, h⟩ := ofB_ne b
      rw [h] at ih
      simp [ofB, h, bump] at hx
      rcases hx with hx | hx
      · have := ih y (by simp); omega
      · exact ih x (by simp [hx])
theorem ofB_zeros (k : Nat) (b : List Bool) : ofB (List.replicate k false ++ b) = addHd k (ofB b) := by
  induction k with
  | zero => obtain ⟨x, r, h⟩ := ofB_ne b; simp [h, addHd]
  | succ k ih =>
    rw [List.replicate_succ, List.cons_append]
    show bump (ofB _) = _
    rw [ih]
    obtain ⟨x, r, h⟩ := ofB_ne b
    simp [h, addHd, bump]; omega
theorem ofB_toB : ∀ (L : List Int), L ≠ [] → (∀ x ∈ L, 1 ≤ x) → ofB (toB L) = L
  | [], h, _ => absurd rfl h
  | [x], _, hp => by
    have := ofB_zeros (x - 1).toNat []
    have h1 := hp x (by simp)
    rw [List.append_nil] at this
    simp only [toB, this, ofB, addHd]
    congr 1; omega
  | x :: y :: r, _, hp => by
    have h1 := hp x (by simp)
    have ih := ofB_toB (y :: r) (by simp) (fun z hz => hp z (List.mem_cons_of_mem _ hz))
    simp only [toB, ofB_zeros, ofB, ih, addHd]
    congr 1; omega
theorem toB_bump (x : Int) (r : List Int) (h : 1 ≤ x) : toB ((x + 1) :: r) = false :: toB (x :: r) := by
  have e : (x + 1 - 1).toNat = (x - 1).toNat + 1 := by omega
  cases r with
  | nil => simp only [toB, e, List.replicate_succ]
  | cons y t => simp only [toB, e, List.replicate_succ, List.cons_append]
theorem toB_ofB (b : List Bool) : toB (ofB b) = b := by
  induction b with
  | nil => rfl
  | cons c b ih =>
    obtain ⟨x, r, h⟩ := ofB_ne b
    have hp := ofB_pos b
    rw [h] at ih hp
    cases c with
    | true => simp [ofB, h, toB, ih]
    | false => simp only [ofB, h, bump]; rw [toB_bump x r (hp x (by simp)), ih]
theorem ofB_true (a b : List Bool) : ofB (a ++ true :: b) = ofB a ++ ofB b := by
  induction a with
  | nil => rfl
  | cons c a ih =>
    cases c with
    | true => simp [ofB, ih]
    | false =>
      obtain ⟨x, r, h⟩ := ofB_ne a
      simp [ofB, ih, h, bump]
theorem ofB_false (a b : List Bool) : ∀ (out : List Int) (run : Int), ofB a = out ++ [run] → ofB (a ++ false :: b) = out ++ addHd run (ofB b) := by
  induction a with
  | nil =>
    intro out run h
    obtain ⟨x, r, hb⟩ := ofB_ne b
    cases out with
    | nil => simp [ofB] at h; subst h; simp [ofB, hb, bump, addHd] <;> omega
    | cons y t => simp [ofB] at h
  | cons c a ih =>
    intro out run h
    obtain ⟨x, r, ha⟩ := ofB_ne a
    cases c with
    | true =>
      cases out with
      | nil => simp [ofB, ha] at h
      | cons y t =>
        simp [ofB] at h
        obtain ⟨h1, h2⟩ := h
        simp [ofB, ih t run h2, h1]
    | false =>
      cases out with
      | nil =>
        simp [ofB, ha, bump] at h
        obtain ⟨h1, h2⟩ := h
        have := ih [] x (by simp [ha, h2])
        obtain ⟨z, q, hb⟩ := ofB_ne b
        simp [hb, addHd] at this ⊢
        simp [ofB, this, bump]; omega
      | cons y t =>
        simp [ofB, ha, bump] at h
        obtain ⟨h1, h2⟩ := h
        have := ih (x :: t) run (by simp [ha, h2])
        simp at this
        simp [ofB, this, bump, h1]
theorem ofB_rev (b : List Bool) : ofB b.reverse = (ofB b).reverse := by
  induction b with
  | nil => rfl
  | cons c b ih =>
    rw [List.reverse_cons]
    cases c with
    | true => rw [ofB_true, ih]; simp [ofB]
    | false =>
      obtain ⟨x, r, h⟩ := ofB_ne b
      have := ofB_false b.reverse [] r.reverse x (by rw [ih, h]; simp)
      rw [this]
      simp [ofB, h, bump, addHd]
theorem ofB_len (b : List Bool) : (ofB b).length = b.count true + 1 := by
  induction b with
  | nil => rfl
  | cons c b ih =>
    cases c with
    | true => simp [ofB, ih]
    | false =>
      obtain ⟨x, r, h⟩ := ofB_ne b
      simp [ofB, h, bump] at ih ⊢
      omega
theorem count_not (b : List Bool) : (b.map (!·)).count true + b.count true = b.length := by
  induction b with
  | nil => rfl
  | cons c b ih => cases c <;> simp <;> omega
theorem bval_append (a b : List Bool) : bval (a ++ b) = bval a + 2 ^ a.length * bval b := by
  induction a with
  | nil => simp [bval]
  | cons c a ih =>
    simp only [List.cons_append, bval, ih, List.length_cons, Nat.pow_succ]
    have : 2 ^ a.length * 2 * bval b = 2 * (2 ^ a.length * bval b) := by rw [Nat.mul_comm (2 ^ a.length) 2, Nat.mul_assoc]
    rw [this]; omega
theorem bval_lt (b : List Bool) : bval b < 2 ^ b.length := by
  induction b with
  | nil => simp [bval]
  | cons c b ih => simp only [bval, List.length_cons, Nat.pow_succ]; split <;> omega
theorem bval_zeros (k : Nat) : bval (List.replicate k false) = 0 := by
  induction k with
  | zero => rfl
  | succ k ih => simp [List.replicate_succ, bval, ih]
theorem bval_not (b : List Bool) : bval (b.map (!·)) + bval b + 1 = 2 ^ b.length := by
  induction b with
  | nil => rfl
  | cons c b ih =>
    simp only [List.map_cons, bval, List.length_cons, Nat.pow_succ]
    cases c <;> simp <;> omega
theorem bitsN_len (m k : Nat) : (bitsN m k).length = k := by
  induction k with
  | zero => rfl
  | succ k ih => simp [bitsN, ih]
theorem bitsN_cons (m k : Nat) : bitsN m (k + 1) = decide (m % 2 = 1) :: bitsN (m / 2) k := by
  induction k with
  | zero => simp [bitsN]
  | succ k ih =>
    rw [bitsN, ih]
    conv => rhs; rw [bitsN]
    rw [List.cons_append, Nat.div_div_eq_div_mul]
    congr 6
    rw [Nat.pow_succ, Nat.mul_comm]
theorem bitsN_bval' (b : List Bool) : bitsN (bval b) b.length = b := by
  induction b with
  | nil => rfl
  | cons c b ih =>
    rw [List.length_cons, bitsN_cons]
    simp only [bval]
    have e : ((if c = true then 1 else 0) + 2 * bval b) / 2 = bval b := by split <;> omega
    rw [e, ih]
    cases c <;> simp <;> omega
theorem bval_bitsN_mod (m k : Nat) : bval (bitsN m k) = m % 2 ^ k := by
  induction k with
  | zero => simp [bitsN, bval, Nat.mod_one]
  | succ k ih =>
    simp only [bitsN, bval_append, bitsN_len, ih, bval]
    rw [Nat.pow_succ, Nat.mod_mul]
    congr 2
    by_cases h : m / 2 ^ k % 2 = 1
    · simp [h]
    · simp [h]; omega
theorem bval_bitsN {m k : Nat} (h : m < 2 ^ k) : bval (bitsN m k) = m := by rw [bval_bitsN_mod, Nat.mod_eq_of_lt h]
theorem bval_inj {a b : List Bool} (hl : a.length = b.length) (h : bval a = bval b) : a = b := by
  rw [← bitsN_bval' a, ← bitsN_bval' b, h, hl]

/-- whether numbers are summands -/
def vsm (L : List Int) : Bool := L.all (fun x => decide (1 ≤ x)) && decide (sumL L ≤ 16)
theorem vsm_iff {L : List Int} : vsm L = true ↔ (∀ x ∈ L, 1 ≤ x) ∧ sumL L ≤ 16 := by simp [vsm]
theorem sum_len {L : List Int} (h : ∀ x ∈ L, 1 ≤ x) : (L.length : Int) ≤ sumL L := by
  induction L with
  | nil => simp [sumL]
  | cons x r ih =>
    have h1 := h x (by simp)
    have h2 := ih (fun y hy => h y (by simp [hy]))
    simp [sumL]; omega
theorem vsm_bd {L : List Int} (h : vsm L = true) : 0 ≤ sumL L ∧ sumL L ≤ 16 ∧ (L.length : Int) ≤ sumL L ∧ L.length ≤ 16 := by
  rw [vsm_iff] at h
  have := sum_len h.1
  omega
theorem vsm_take {L : List Int} (h : vsm L = true) (k : Nat) : vsm (L.take k) = true := by
  rw [vsm_iff] at *
  have e := congrArg sumL (List.take_append_drop k L)
  rw [sumL_append] at e
  have := sum_len (L := L.drop k) (fun x hx => h.1 x (List.mem_of_mem_drop hx))
  exact ⟨fun x hx => h.1 x (List.mem_of_mem_take hx), by omega⟩
theorem vsm_next {L : List Int} {k : Nat} (hk : k < L.length) (h : vsm (L.take k) = true) (h1 : 1 ≤ L[k]) (h2 : L[k] ≤ 16 - sumL (L.take k)) : vsm (L.take (k + 1)) = true := by
  rw [vsm_iff] at *
  rw [sumL_take_succ L k hk]
  refine ⟨fun x hx => ?_, by omega⟩
  rw [List.take_succ_eq_append_getElem hk, List.mem_append] at hx
  rcases hx with hx | hx
  · exact h.1 x hx
  · simp at hx; omega
theorem vsm_stop {L : List Int} {k : Nat} (hk : k < L.length) (hn : ¬ (1 ≤ L[k] ∧ L[k] ≤ 16 - sumL (L.take k))) : vsm L = false := by
  cases hv : vsm L with
  | false => rfl
  | true =>
    have h1 := vsm_take hv (k + 1)
    rw [vsm_iff] at h1 hv
    rw [sumL_take_succ L k hk] at h1
    exact absurd ⟨hv.1 _ (List.getElem_mem hk), by omega⟩ hn
theorem toB_len : ∀ (L : List Int), (∀ x ∈ L, 1 ≤ x) → (toB L).length = (sumL L - 1).toNat
  | [], _ => rfl
  | [x], h => by simp [toB, sumL]
  | x :: y :: r, h => by
    have h1 := h x (by simp)
    have hy := h y (by simp)
    have hr : ∀ z ∈ y :: r, 1 ≤ z := fun z hz => h z (List.mem_cons_of_mem _ hz)
    have ih := toB_len (y :: r) hr
    have h2 := sum_len hr
    simp only [toB, List.length_append, List.length_replicate, List.length_cons, ih, sumL] at *
    omega
theorem toB_append : ∀ (a b : List Int), a ≠ [] → b ≠ [] → toB (a ++ b) = toB a ++ true :: toB b
  | [], _, h, _ => absurd rfl h
  | [x], [], _, h => absurd rfl h
  | [x], y :: t, _, _ => by simp [toB]
  | x :: y :: r, b, _, hb => by
    have ih := toB_append (y :: r) b (by simp) hb
    simp only [List.cons_append, toB] at ih ⊢
    rw [ih, List.append_assoc, List.cons_append]
/-- the bits of summands as a number -/
def mkN (L : List Int) : Nat := bval (toB L)
/-- the summands of a sum and bits -/
def smk (n m : Nat) : List Int := if n = 0 then [] else ofB (bitsN m (n - 1))
def sgN (L : List Int) : Nat := (sumL L).toNat
theorem mkN_lt {L : List Int} (h : ∀ x ∈ L, 1 ≤ x) : mkN L < 2 ^ (sgN L - 1) := by
  have h1 := bval_lt (toB L)
  rw [toB_len L h] at h1
  unfold mkN sgN
  rwa [show (sumL L).toNat - 1 = (sumL L - 1).toNat by omega]
theorem mkN_next {L : List Int} {k : Nat} (hk : k < L.length) (h0 : 0 < k) (hp : ∀ x ∈ L, 1 ≤ x) : mkN (L.take (k + 1)) = mkN (L.take k) + 2 ^ (sgN (L.take k) - 1) := by
  unfold mkN
  have hpt : ∀ x ∈ L.take k, 1 ≤ x := fun x hx => hp x (List.mem_of_mem_take hx)
  have hne : L.take k ≠ [] := by intro e; have := congrArg List.length e; rw [List.length_take, List.length_nil] at this; omega
  rw [List.take_succ_eq_append_getElem hk, toB_append _ _ hne (by simp), bval_append, toB_len _ hpt]
  simp only [toB, bval, bval_zeros]
  rw [show (sumL (L.take k) - 1).toNat = sgN (L.take k) - 1 by unfold sgN; omega]; simp
theorem smk_mkN {L : List Int} (h : ∀ x ∈ L, 1 ≤ x) : smk (sgN L) (mkN L) = L := by
  unfold smk
  have hs := sum_len h
  by_cases h0 : L = []
  · subst h0; simp [sgN, sumL]
  · have hl : 0 < L.length := List.length_pos_iff.2 h0
    rw [if_neg (by unfold sgN; omega)]
    have e : sgN L - 1 = (toB L).length := by rw [toB_len L h]; unfold sgN; omega
    rw [e, mkN, bitsN_bval' (toB L), ofB_toB L h0 h]
theorem smk_sum (n m : Nat) : sumL (smk n m) = n := by
  unfold smk
  split
  · subst_vars; rfl
  · rw [ofB_sum, bitsN_len]; omega
theorem smk_pos (n m : Nat) : ∀ x ∈ smk n m, 1 ≤ x := by
  unfold smk
  split
  · simp
  · exact ofB_pos _
theorem smk_ok {n : Nat} (m : Nat) (h : n ≤ 16) : vsm (smk n m) = true := vsm_iff.2 ⟨smk_pos n m, by rw [smk_sum]; omega⟩
theorem smk_len (n m : Nat) : (smk n m).length ≤ n := by
  have := sum_len (smk_pos n m)
  rw [smk_sum] at this
  omega
theorem mkN_smk {n m : Nat} (h : m < 2 ^ (n - 1)) : mkN (smk n m) = m := by
  unfold smk mkN
  split
  · subst_vars; simp at h; subst h; rfl
  · rw [toB_ofB, bval_bitsN h]
theorem sgN_smk (n m : Nat) : sgN (smk n m) = n := by unfold sgN; rw [smk_sum]; omega
/-- the sum and the bits that the program tells summands by -/
def smS (L : List Int) : Nat := if vsm L = true then sgN L else 0
def smM (L : List Int) : Nat := if vsm L = true then mkN L else 0
theorem smS_yes {L : List Int} (h : vsm L = true) : smS L = sgN L := by unfold smS; rw [if_pos h]
theorem smM_yes {L : List Int} (h : vsm L = true) : smM L = mkN L := by unfold smM; rw [if_pos h]
theorem smS_no {L : List Int} (h : vsm L = false) : smS L = 0 := by unfold smS; rw [if_neg (by rw [h]; decide)]
theorem smM_no {L : List Int} (h : vsm L = false) : smM L = 0 := by unfold smM; rw [if_neg (by rw [h]; decide)]
theorem smS_le (L : List Int) : smS L ≤ 16 := by
  unfold smS
  split
  · have := vsm_bd (by assumption); unfold sgN; omega
  · omega
theorem smM_lt (L : List Int) : smM L < 2 ^ (smS L - 1) := by
  cases h : vsm L with
  | true => rw [smS_yes h, smM_yes h]; exact mkN_lt (vsm_iff.1 h).1
  | false => rw [smS_no h, smM_no h]; decide
theorem sgN_next {L : List Int} {k : Nat} (hk : k < L.length) (hp : vsm L = true ∨ vsm (L.take (k + 1)) = true) {x : Nat} (hx : L[k] = x) : sgN (L.take (k + 1)) = sgN (L.take k) + x := by
  have hq : vsm (L.take (k + 1)) = true := hp.elim (fun h => vsm_take h _) id
  have h1 := vsm_bd (vsm_take hq k)
  rw [List.take_take, Nat.min_eq_left (by omega)] at h1
  unfold sgN
  rw [sumL_take_succ L k hk, hx]; omega
theorem mkN_step {L : List Int} {k : Nat} (hk : k < L.length) (hp : vsm (L.take (k + 1)) = true) : mkN (L.take (k + 1)) = mkN (L.take k) + if sgN (L.take k) = 0 then 0 else 2 ^ (sgN (L.take k) - 1) := by
  have hpos := (vsm_iff.1 hp).1
  rcases Nat.eq_zero_or_pos k with h0 | h0
  · subst h0
    have e : L.take (0 + 1) = [L[0]] := by rw [List.take_succ_eq_append_getElem hk]; rfl
    rw [e]
    simp [mkN, toB, bval_zeros, bval, sgN, sumL]
  · have h2 : ∀ x ∈ L.take k, 1 ≤ x := fun x hx => hpos x (by rw [List.take_succ_eq_append_getElem hk]; exact List.mem_append_left _ hx)
    have h3 := sum_len h2
    rw [List.length_take_of_le (by omega)] at h3
    rw [if_neg (by unfold sgN; omega)]
    have := mkN_next (L := L.take (k + 1)) (k := k) (by simp; omega) h0 hpos
    rw [List.take_take, List.take_take, Nat.min_self, Nat.min_eq_left (by omega)] at this
    exact this
/-- the opposite bits -/
def opN (L : List Int) : Nat := 2 ^ (sgN L - 1) - 1 - mkN L
def opp (L : List Int) : List Int := smk (sgN L) (opN L)
theorem opN_lt (L : List Int) : opN L < 2 ^ (sgN L - 1) := by unfold opN; have := Nat.two_pow_pos (sgN L - 1); omega
theorem opp_nil : opp [] = [] := by simp [opp, smk, sgN, sumL]
theorem bval_not' (b : List Bool) : bval (b.map (!·)) = 2 ^ b.length - 1 - bval b := by have := bval_not b; omega
theorem opp_bits {L : List Int} (h : ∀ x ∈ L, 1 ≤ x) (h0 : L ≠ []) : opp L = ofB ((toB L).map (!·)) := by
  have hs := sum_len h
  have hl : 0 < L.length := List.length_pos_iff.2 h0
  unfold opp smk
  rw [if_neg (by unfold sgN; omega)]
  have e : sgN L - 1 = (toB L).length := by rw [toB_len L h]; unfold sgN; omega
  have e2 : opN L = bval ((toB L).map (!·)) := by unfold opN mkN; rw [bval_not', e]
  rw [e2, e]
  have := bitsN_bval' ((toB L).map (!·))
  rw [List.length_map] at this
  rw [this]
theorem opp_opp {L : List Int} (h : ∀ x ∈ L, 1 ≤ x) : opp (opp L) = L := by
  by_cases h0 : L = []
  · subst h0; rw [opp_nil, opp_nil]
  · have e := opp_bits h h0
    obtain ⟨x, r, hx⟩ := ofB_ne ((toB L).map (!·))
    have := opp_bits (L := opp L) (by rw [e]; exact ofB_pos _) (by rw [e, hx]; simp)
    rw [this, e, toB_ofB, List.map_map]
    have e3 : (toB L).map ((fun x => !x) ∘ fun x => !x) = toB L := by
      conv => rhs; rw [← List.map_id (toB L)]
      apply List.map_congr_left; intro b _; simp
    rw [e3, ofB_toB L h0 h]
theorem opp_sum (L : List Int) (h : 0 ≤ sumL L) : sumL (opp L) = sumL L := by unfold opp; rw [smk_sum]; unfold sgN; omega
theorem opp_ok {L : List Int} (h : vsm L = true) : vsm (opp L) = true := smk_ok _ (by have := vsm_bd h; unfold sgN; omega)
theorem opp_len {L : List Int} (h : ∀ x ∈ L, 1 ≤ x) (h0 : L ≠ []) : (L.length : Int) + (opp L).length = sumL L + 1 := by
  have e := opp_bits h h0
  have e2 := ofB_toB L h0 h
  have l1 := ofB_len ((toB L).map (!·))
  have l2 := ofB_len (toB L)
  rw [e2] at l2
  have hc := count_not (toB L)
  rw [toB_len L h] at hc
  have hs := sum_len h
  have hl : 0 < L.length := List.length_pos_iff.2 h0
  rw [e, l1]
  omega
theorem sumL_rev (L : List Int) : sumL L.reverse = sumL L := by
  induction L with
  | nil => rfl
  | cons x r ih => rw [List.reverse_cons, sumL_append, ih]; simp [sumL]; omega
theorem vsm_rev {L : List Int} (h : vsm L = true) : vsm L.reverse = true := by
  rw [vsm_iff] at *
  exact ⟨fun x hx => h.1 x (by simpa using hx), by rw [sumL_rev]; exact h.2⟩
theorem opp_rev {L : List Int} (h : ∀ x ∈ L, 1 ≤ x) : opp L.reverse = (opp L).reverse := by
  by_cases h0 : L = []
  · subst h0; simp [opp_nil]
  · have hr : ∀ x ∈ L.reverse, 1 ≤ x := fun x hx => h x (by simpa using hx)
    have e : toB L.reverse = (toB L).reverse := by
      rw [← toB_ofB (toB L).reverse, ofB_rev, ofB_toB L h0 h]
    rw [opp_bits h h0, opp_bits hr (by simpa using h0), e, List.map_reverse, ofB_rev]
/-- summands behind others -/
def lnk (c d : List Int) (near : Bool) : List Int :=
  if near = true ∧ c ≠ [] ∧ d ≠ [] then c.dropLast ++ addHd (c.getLastD 0) d else c ++ d
theorem lnk_bits {c d : List Int} (hc : ∀ x ∈ c, 1 ≤ x) (hd : ∀ x ∈ d, 1 ≤ x) (c0 : c ≠ []) (d0 : d ≠ []) (near : Bool) : lnk c d near = ofB (toB c ++ (!near) :: toB d) := by
  unfold lnk
  cases near with
  | true =>
    rw [if_pos ⟨rfl, c0, d0⟩]
    have hl : c.dropLast ++ [c.getLastD 0] = c := by
      rw [List.getLastD_eq_getLast?, List.getLast?_eq_some_getLast c0]
      exact List.dropLast_concat_getLast c0
    have := ofB_false (toB c) (toB d) c.dropLast (c.getLastD 0) (by rw [ofB_toB c c0 hc, hl])
    rw [ofB_toB d d0 hd] at this
    exact this.symm
  | false =>
    rw [if_neg (by simp)]
    show _ = ofB (toB c ++ true :: toB d)
    rw [ofB_true, ofB_toB c c0 hc, ofB_toB d d0 hd]
theorem lnk_nil_left (d : List Int) (near : Bool) : lnk [] d near = d := by simp [lnk]
theorem lnk_nil_right (c : List Int) (near : Bool) : lnk c [] near = c := by simp [lnk]
theorem lnk_pos {c d : List Int} (hc : ∀ x ∈ c, 1 ≤ x) (hd : ∀ x ∈ d, 1 ≤ x) (near : Bool) : ∀ x ∈ lnk c d near, 1 ≤ x := by
  by_cases c0 : c = []
  · subst c0; rw [lnk_nil_left]; exact hd
  · by_cases d0 : d = []
    · subst d0; rw [lnk_nil_right]; exact hc
    · rw [lnk_bits hc hd c0 d0]; exact ofB_pos _
theorem addHd_sum (r : Int) (L : List Int) : sumL (addHd r L) = r + sumL L := by
  cases L <;> simp [addHd, sumL]; omega
theorem lnk_sum (c d : List Int) (near : Bool) : sumL (lnk c d near) = sumL c + sumL d := by
  unfold lnk
  split
  · rename_i h
    have hl : c.dropLast ++ [c.getLastD 0] = c := by
      rw [List.getLastD_eq_getLast?, List.getLast?_eq_some_getLast h.2.1]
      exact List.dropLast_concat_getLast h.2.1
    have := congrArg sumL hl
    rw [sumL_append] at this
    simp only [sumL] at this
    rw [sumL_append, addHd_sum]; omega
  · rw [sumL_append]
theorem opp_lnk {c d : List Int} (hc : ∀ x ∈ c, 1 ≤ x) (hd : ∀ x ∈ d, 1 ≤ x) (near : Bool) : opp (lnk c d near) = lnk (opp c) (opp d) (!near) := by
  by_cases c0 : c = []
  · subst c0; rw [lnk_nil_left, opp_nil, lnk_nil_left]
  · by_cases d0 : d = []
    · subst d0; rw [lnk_nil_right, opp_nil, lnk_nil_right]
    · have hp := lnk_pos hc hd near
      have e := lnk_bits hc hd c0 d0 near
      obtain ⟨x, r, hx⟩ := ofB_ne (toB c ++ (!near) :: toB d)
      have hne : lnk c d near ≠ [] := by rw [e, hx]; simp
      have ec := opp_bits hc c0
      have ed := opp_bits hd d0
      have hc' : ∀ x ∈ opp c, 1 ≤ x := by rw [ec]; exact ofB_pos _
      have hd' : ∀ x ∈ opp d, 1 ≤ x := by rw [ed]; exact ofB_pos _
      obtain ⟨_, _, h1⟩ := ofB_ne ((toB c).map (!·))
      obtain ⟨_, _, h2⟩ := ofB_ne ((toB d).map (!·))
      rw [opp_bits hp hne, e, toB_ofB, lnk_bits hc' hd' (by rw [ec, h1]; simp) (by rw [ed, h2]; simp), ec, ed, toB_ofB, toB_ofB]
      simp
/-- the summands that a sum and bits of a link are -/
theorem smk_lnk {c d : List Int} (hc : ∀ x ∈ c, 1 ≤ x) (hd : ∀ x ∈ d, 1 ≤ x) (c0 : c ≠ []) (d0 : d ≠ []) (near : Bool) :
    smk (sgN c + sgN d) (mkN c + 2 ^ (sgN c - 1) * (if near = true then 0 else 1) + 2 ^ sgN c * mkN d) = lnk c d near := by
  have hs := sum_len hc
  have hs2 := sum_len hd
  have hl : 0 < c.length := List.length_pos_iff.2 c0
  have hl2 : 0 < d.length := List.length_pos_iff.2 d0
  have e1 : (toB c).length = sgN c - 1 := by rw [toB_len c hc]; unfold sgN; omega
  have e2 : (toB d).length = sgN d - 1 := by rw [toB_len d hd]; unfold sgN; omega
  have hg : 0 < sgN c := by unfold sgN; omega
  have hg2 : 0 < sgN d := by unfold sgN; omega
  rw [lnk_bits hc hd c0 d0]
  have hlen : (toB c ++ (!near) :: toB d).length = sgN c + sgN d - 1 := by simp [e1, e2]; omega
  have hval : bval (toB c ++ (!near) :: toB d) = mkN c + 2 ^ (sgN c - 1) * (if near = true then 0 else 1) + 2 ^ sgN c * mkN d := by
    rw [bval_append, e1]
    simp only [bval]
    have hp : 2 ^ sgN c = 2 ^ (sgN c - 1) * 2 := by rw [← Nat.pow_succ]; congr 1; omega
    rw [hp, Nat.mul_add, ← Nat.mul_assoc, ← Nat.add_assoc]
    unfold mkN
    cases near <;> simp
  unfold smk
  rw [if_neg (by omega), ← hval, ← hlen, bitsN_bval']
end NP
end Go.Proofs.Ytcjnmconehfbgaa
namespace Go.Proofs.Ytcjnmconehfbgaa
namespace NP
def mkF (L : List Int) : Int := if vsm L = true then (mkN L : Int) else -1
theorem mkF_yes {L : List Int} (h : vsm L = true) : mkF L = (mkN L : Int) := by unfold mkF; rw [if_pos h]
theorem mkF_no {L : List Int} (h : vsm L = false) : mkF L = -1 := by unfold mkF; rw [if_neg (by rw [h]; decide)]
/-- whether a sum has the bits -/
def smOk (n m : Int) : Bool := decide (0 ≤ n) && decide (n ≤ 16) && decide (0 ≤ m) && decide (m < ((2 ^ (n.toNat - 1) : Nat) : Int))
def smkF (n m : Int) : List Int := if smOk n m = true then smk n.toNat m.toNat else []
theorem smOk_iff {n m : Int} : smOk n m = true ↔ 0 ≤ n ∧ n ≤ 16 ∧ 0 ≤ m ∧ m < ((2 ^ (n.toNat - 1) : Nat) : Int) := by simp only [smOk, Bool.and_eq_true, decide_eq_true_eq]; omega
theorem smkF_yes {n m : Int} (h : smOk n m = true) : smkF n m = smk n.toNat m.toNat := by unfold smkF; rw [if_pos h]
theorem smkF_no {n m : Int} (h : smOk n m = false) : smkF n m = [] := by unfold smkF; rw [if_neg (by rw [h]; decide)]
theorem smk_len16 {n : Nat} (m : Nat) (h : n ≤ 16) : (smk n m).length ≤ 16 := by have := smk_len n m; omega
theorem smkF_len (n m : Int) : (smkF n m).length ≤ 16 := by
  cases h : smOk n m with
  | true => rw [smkF_yes h]; rw [smOk_iff] at h; exact smk_len16 _ (by omega)
  | false => rw [smkF_no h]; simp
def oppF (L : List Int) : List Int := if vsm L = true then opp L else []
theorem oppF_yes {L : List Int} (h : vsm L = true) : oppF L = opp L := by unfold oppF; rw [if_pos h]
theorem oppF_no {L : List Int} (h : vsm L = false) : oppF L = [] := by unfold oppF; rw [if_neg (by rw [h]; decide)]
theorem oppF_len (L : List Int) : (oppF L).length ≤ 16 := by
  cases h : vsm L with
  | true => rw [oppF_yes h]; exact (vsm_bd (opp_ok h)).2.2.2
  | false => rw [oppF_no h]; simp
def trnF (L : List Int) : List Int := if vsm L = true then L.reverse else []
theorem trnF_yes {L : List Int} (h : vsm L = true) : trnF L = L.reverse := by unfold trnF; rw [if_pos h]
theorem trnF_no {L : List Int} (h : vsm L = false) : trnF L = [] := by unfold trnF; rw [if_neg (by rw [h]; decide)]
theorem trnF_len (L : List Int) : (trnF L).length ≤ 16 := by
  cases h : vsm L with
  | true => rw [trnF_yes h, List.length_reverse]; exact (vsm_bd h).2.2.2
  | false => rw [trnF_no h]; simp
def lnkOk (c d : List Int) : Bool := vsm c && vsm d && decide (sumL c + sumL d ≤ 16)
def lnkF (c d : List Int) (near : Bool) : List Int := if lnkOk c d = true then lnk c d near else []
theorem lnkOk_iff {c d : List Int} : lnkOk c d = true ↔ vsm c = true ∧ vsm d = true ∧ sumL c + sumL d ≤ 16 := by simp [lnkOk, and_assoc]
theorem lnkF_yes {c d : List Int} (h : lnkOk c d = true) (near : Bool) : lnkF c d near = lnk c d near := by unfold lnkF; rw [if_pos h]
theorem lnkF_no {c d : List Int} (h : lnkOk c d = false) (near : Bool) : lnkF c d near = [] := by unfold lnkF; rw [if_neg (by rw [h]; decide)]
theorem lnk_ok {c d : List Int} (h : lnkOk c d = true) (near : Bool) : vsm (lnk c d near) = true := by
  rw [lnkOk_iff] at h
  rw [vsm_iff, lnk_sum]
  exact ⟨lnk_pos (vsm_iff.1 h.1).1 (vsm_iff.1 h.2.1).1 near, h.2.2⟩
theorem lnkF_len (c d : List Int) (near : Bool) : (lnkF c d near).length ≤ 16 := by
  cases h : lnkOk c d with
  | true => rw [lnkF_yes h]; exact (vsm_bd (lnk_ok h near)).2.2.2
  | false => rw [lnkF_no h]; simp
theorem lnkOk_opp {c d : List Int} (h : lnkOk c d = true) : lnkOk (opp c) (opp d) = true := by
  rw [lnkOk_iff] at *
  have h1 := vsm_bd h.1
  have h2 := vsm_bd h.2.1
  exact ⟨opp_ok h.1, opp_ok h.2.1, by rw [opp_sum _ h1.1, opp_sum _ h2.1]; exact h.2.2⟩
/-- the sum and bits of a link are the link -/
theorem smk_link {c d : List Int} (hc : ∀ x ∈ c, 1 ≤ x) (hd : ∀ x ∈ d, 1 ≤ x) (near : Bool) :
    smk (sgN c + sgN d) (mkN c + 2 ^ (sgN c - 1) * (if near = true ∨ sgN c = 0 ∨ sgN d = 0 then 0 else 1) + 2 ^ sgN c * mkN d) = lnk c d near := by
  have e0 : sgN [] = 0 := rfl
  have m0 : mkN [] = 0 := rfl
  by_cases c0 : c = []
  · subst c0
    rw [lnk_nil_left, e0, m0]
    simp [smk_mkN hd]
  · by_cases d0 : d = []
    · subst d0
      rw [lnk_nil_right, e0, m0]
      simp [smk_mkN hc]
    · have := smk_lnk hc hd c0 d0 near
      have h1 := sum_len hc
      have h2 := sum_len hd
      have l1 : 0 < c.length := List.length_pos_iff.2 c0
      have l2 : 0 < d.length := List.length_pos_iff.2 d0
      have g1 : ¬ sgN c = 0 := by unfold sgN; omega
      have g2 : ¬ sgN d = 0 := by unfold sgN; omega
      simp only [g1, g2, or_false]
      exact this
def finF (c d : List Int) : Bool := vsm c && vsm d && (decide (sgN c = sgN d) && decide (mkN c &&& mkN d = mkN d))
theorem finF_no {c d : List Int} (h : (vsm c && vsm d) = false) : finF c d = false := by unfold finF; rw [h]; rfl
theorem finF_yes {c d : List Int} (h : vsm c = true) (h2 : vsm d = true) : finF c d = (decide (sgN c = sgN d) && decide (mkN c &&& mkN d = mkN d)) := by unfold finF; rw [h, h2]; rfl
theorem pow16 {n : Nat} (h : n ≤ 16) : 2 ^ (n - 1) ≤ 32768 := by
  have : (2 : Nat) ^ (n - 1) ≤ 2 ^ 15 := Nat.pow_le_pow_right (by omega) (by omega)
  omega
theorem mkN_16 {L : List Int} (h : vsm L = true) : mkN L < 32768 := by
  have h1 := mkN_lt (vsm_iff.1 h).1
  have h2 := vsm_bd h
  have := pow16 (n := sgN L) (by unfold sgN; omega)
  omega
theorem smM_16 (L : List Int) : smM L < 32768 := by
  have h1 := smM_lt L
  have := pow16 (smS_le L)
  omega
end NP
end Go.Proofs.Ytcjnmconehfbgaa
namespace Go.Proofs.Ytcjnmconehfbgaa
namespace NP
set_option linter.unusedVariables false
theorem mono_uniq {A B : List Int} (hA : mono A) (hB : mono B) (h : ∀ k, eqc k A = eqc k B) (hl : A.length = B.length) : A = B := by
  induction A generalizing B with
  | nil => exact (List.eq_nil_of_length_eq_zero (by simp at hl; omega)).symm
  | cons x r ih =>
    cases B with
    | nil => simp at hl
    | cons y s =>
      have hx : x ∈ y :: s := eqc_mem (by rw [← h x]; exact eqc_pos (by simp))
      have hy : y ∈ x :: r := eqc_mem (by rw [h y]; exact eqc_pos (by simp))
      have e : x = y := by
        rcases List.mem_cons.1 hx with e | e
        · exact e
        · rcases List.mem_cons.1 hy with e2 | e2
          · exact e2.symm
          · have := hB.1 x e; have := hA.1 y e2; omega
      subst e
      congr 1
      exact ih hA.2 hB.2 (fun k => by have := h k; rw [eqc_cons, eqc_cons] at this; omega) (by simpa using hl)
/-- parts from 16 down, m numbers of them, each as often as it comes in L -/
def dscA (L : List Int) : Nat → List Int
  | 0 => []
  | m + 1 => dscA L m ++ List.replicate (eqc ((16 : Int) - m) L).toNat ((16 : Int) - m)
theorem dscA_low (L : List Int) (m : Nat) : ∀ x ∈ dscA L m, (16 : Int) - m < x := by
  induction m with
  | zero => intro x hx; simp [dscA] at hx
  | succ m ih =>
    intro x hx
    rcases List.mem_append.1 hx with hx | hx
    · have := ih x hx; omega
    · have := (List.mem_replicate.1 hx).2; omega
theorem mono_rep (n : Nat) (x : Int) : mono (List.replicate n x) := by
  induction n with
  | zero => exact trivial
  | succ n ih => exact ⟨fun y hy => by have := (List.mem_replicate.1 hy).2; omega, ih⟩
theorem dscA_mono (L : List Int) (m : Nat) : mono (dscA L m) := by
  induction m with
  | zero => exact trivial
  | succ m ih =>
    refine mono_append ih (mono_rep _ _) fun a ha b hb => ?_
    have h1 := dscA_low L m a ha
    have h2 := (List.mem_replicate.1 hb).2
    omega
theorem eqc_out {L : List Int} {k : Int} (h : k ∉ L) : eqc k L = 0 := by
  have h1 := eqc_bd k L
  rcases Int.lt_or_le 0 (eqc k L) with h2 | h2
  · exact absurd (eqc_mem h2) h
  · omega
theorem dscA_eqc (L : List Int) (m : Nat) (k : Int) : eqc k (dscA L m) = if (16 : Int) - m < k ∧ k ≤ 16 then eqc k L else 0 := by
  induction m with
  | zero => simp [dscA, eqc]; omega
  | succ m ih =>
    have hb := eqc_bd ((16 : Int) - m) L
    rw [dscA, eqc_append, ih, eqc_replicate]
    by_cases h1 : (16 : Int) - m = k
    · subst h1
      rw [if_neg (by omega), if_pos rfl, if_pos (by omega)]
      omega
    · rw [if_neg h1]
      by_cases h2 : (16 : Int) - m < k ∧ k ≤ 16
      · rw [if_pos h2, if_pos (by omega)]; omega
      · rw [if_neg h2, if_neg (by omega)]; omega
theorem eqc_len {A B : List Int} (h : ∀ k, eqc k A = eqc k B) : A.length = B.length := by
  induction A generalizing B with
  | nil =>
    cases B with
    | nil => rfl
    | cons y s => have := h y; rw [eqc_cons] at this; have := (eqc_bd y s).1; simp [eqc] at *; omega
  | cons x r ih =>
    have hx : x ∈ B := eqc_mem (by rw [← h x]; exact eqc_pos (by simp))
    obtain ⟨b1, b2, rfl⟩ := List.append_of_mem hx
    have := ih (B := b1 ++ b2) (fun k => by
      have := h k
      rw [eqc_cons, eqc_append, eqc_cons] at this
      rw [eqc_append]; omega)
    simp at this ⊢; omega
theorem dscA_all' {L : List Int} (h : ∀ x ∈ L, 1 ≤ x ∧ x ≤ 16) (m : Nat) (hm : m = 16) : dscA L m = mrg L := by
  have hq : ∀ k, eqc k (dscA L m) = eqc k (mrg L) := fun k => by
    rw [dscA_eqc, mrg_eqc]
    by_cases hk : (16 : Int) - (m : Int) < k ∧ k ≤ 16
    · rw [if_pos hk]
    · rw [if_neg hk]
      exact (eqc_out (fun hx => hk (by have := h k hx; omega))).symm
  exact mono_uniq (dscA_mono L m) (mrg_mono L) hq (eqc_len hq)
theorem dscA_all {L : List Int} (h : ∀ x ∈ L, 1 ≤ x ∧ x ≤ 16) : dscA L 16 = mrg L := dscA_all' h 16 rfl
theorem dscA_le (L : List Int) {j m : Nat} (h : j ≤ m) : (dscA L j).length ≤ (dscA L m).length := by
  induction m with
  | zero => obtain rfl : j = 0 := by omega
            exact Nat.le_refl _
  | succ m ih =>
    rcases Nat.lt_or_ge j (m + 1) with h1 | h1
    · have := ih (by omega); rw [dscA, List.length_append]; omega
    · obtain rfl : j = m + 1 := by omega
      exact Nat.le_refl _
theorem vsm_each {L : List Int} (h : vsm L = true) : ∀ x ∈ L, 1 ≤ x ∧ x ≤ 16 := by
  intro x hx
  obtain ⟨k, hk, rfl⟩ := List.getElem_of_mem hx
  have h1 := vsm_bd (vsm_take h k)
  have h2 := vsm_bd (vsm_take h (k + 1))
  rw [sumL_take_succ L k hk] at h2
  exact ⟨(vsm_iff.1 h).1 _ (List.getElem_mem hk), by omega⟩
theorem mrg_ok {L : List Int} (h : vsm L = true) : valid (mrg L) = true :=
  valid_mono (mrg_mono L) (fun x hx => ((vsm_each h) x (mrg_mem hx)).1) (by rw [mrg_sum]; exact (vsm_iff.1 h).2)
theorem dscA_len {L : List Int} (h : vsm L = true) {m : Nat} (hm : m ≤ 16) : (dscA L m).length ≤ 16 := by
  have h1 := dscA_le L hm
  rw [dscA_all (vsm_each h), mrg_len] at h1
  have := (vsm_bd h).2.2.2
  omega
/-- the parts of summands -/
def posF (L : List Int) : List Int := if vsm L = true then mrg L else []
theorem posF_yes {L : List Int} (h : vsm L = true) : posF L = mrg L := by unfold posF; rw [if_pos h]
theorem posF_no {L : List Int} (h : vsm L = false) : posF L = [] := by unfold posF; rw [if_neg (by rw [h]; decide)]
theorem posF_len (L : List Int) : (posF L).length ≤ 16 := by
  cases h : vsm L with
  | true => rw [posF_yes h, mrg_len]; exact (vsm_bd h).2.2.2
  | false => rw [posF_no h]; simp
theorem posF_valid (L : List Int) : valid (posF L) = true := by
  cases h : vsm L with
  | true => rw [posF_yes h]; exact mrg_ok h
  | false => rw [posF_no h]; rfl
theorem vsm_of_valid {L : List Int} (h : valid L = true) : vsm L = true := vsm_iff.2 ⟨valid_ge1 h, (valid_bd h).2.1⟩
theorem mrg_of_mono {L : List Int} (h : mono L) : mrg L = L := mono_uniq (mrg_mono L) h (fun k => mrg_eqc L k) (mrg_len L)
theorem mono_of_valid {L : List Int} (h : valid L = true) : mono L := by
  have hp := preS_of_valid h
  have hstep : ∀ k (hk : k + 1 < L.length), L[k + 1] ≤ L[k] := fun k hk => by
    have := (hp (k + 1) hk hk).2.2 (by omega)
    simpa using this
  clear h hp
  induction L with
  | nil => exact trivial
  | cons x r ih =>
    refine ⟨fun y hy => ?_, ih (fun k hk => by have := hstep (k + 1) (by simpa using hk); simpa using this)⟩
    obtain ⟨j, hj, rfl⟩ := List.getElem_of_mem hy
    have : ∀ j (hj : j < (x :: r).length), (x :: r)[j] ≤ x := by
      intro j
      induction j with
      | zero => intro _; exact Int.le_refl _
      | succ j ihj =>
        intro hj
        have h1 := hstep j hj
        have h2 := ihj (by omega)
        omega
    have := this (j + 1) (by simpa using hj)
    simpa using this
theorem eqc_rev (k : Int) (L : List Int) : eqc k L.reverse = eqc k L := by
  induction L with
  | nil => rfl
  | cons x r ih => rw [List.reverse_cons, eqc_append, ih, eqc_cons, eqc_cons]; simp [eqc]; omega
theorem mrg_rev (L : List Int) : mrg L.reverse = mrg L :=
  mono_uniq (mrg_mono _) (mrg_mono _) (fun k => by rw [mrg_eqc, mrg_eqc, eqc_rev]) (by rw [mrg_len, mrg_len, List.length_reverse])
/-- how often each number from 0 to 16 comes -/
def tlyL (L : List Int) : List Int := (List.range 17).map fun (v : Nat) => eqc v L
theorem tlyL_len (L : List Int) : (tlyL L).length = 17 := by simp [tlyL]
theorem tlyL_at (L : List Int) {v : Nat} (h : v < 17) : (tlyL L)[v]'(by rw [tlyL_len]; exact h) = eqc v L := by simp [tlyL]
theorem tlyL_next (L : List Int) {x : Nat} (hx : x < 17) : (tlyL L).set x (eqc x L + 1) = tlyL (L ++ [(x : Int)]) := by
  apply List.ext_getElem
  · simp [tlyL]
  · intro v h1 h2
    have hv : v < 17 := by simpa [tlyL] using h2
    rw [List.getElem_set]
    by_cases e : x = v
    · subst e
      rw [if_pos rfl, tlyL_at _ hv, eqc_append]
      simp [eqc]
    · rw [if_neg e, tlyL_at _ hv, tlyL_at _ hv, eqc_append]
      have : ¬ (x : Int) = (v : Int) := by omega
      simp [eqc, this]
end NP
end Go.Proofs.Ytcjnmconehfbgaa
