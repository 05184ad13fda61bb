/-
  A range over a function whose iterator keeps a state of its own in cells of one type. Mathematics: all parts with a sum, none greater than a number, the greater first. Walks of the program: all diagrams, one after the other. Walks of the program: the iterator over all diagrams with a sum. Words for lists of lists: readable (RdLL), the call's own (OwnLL). Walks of the program: all parts with a sum, those of which something holds. Walks of the program: the parts with a sum of which something holds, where parts are listed. Walks: the laws' own helpers on lists of lists: compared (eqIntSS, equalLists). Walks: all parts listed (the model's list).
-/
import Derived.Test.YtmlomapifldlpaaDoorZA1
import Derived.Test.YtmlomapifldlpaaDoorZA2
import Derived.Test.YtmlomapifldlpaaDoorZA3
import Derived.Test.YtmlomapifldlpaaDoorZA4
import Derived.RangeFuncFrom
import Derived.RangeFuncBound
import Derived.RangeFuncCalls
import Derived.RangeFuncLeaves
import Derived.Shelf.Abstract
import Derived.Shelf.RegionOpen
import Derived.WalkKit
import Derived.OwnWalkIn
import Derived.TacticsInMore
import Derived.LoopNIn
import Derived.LoopIn
import Derived.Laws.Rows
import Derived.Deep.RegionHeld3
namespace Go.Proofs.YtmlomapifldlpaaDoor
open Go.RowKit Go.Shelf
set_option maxRecDepth 8000
set_option linter.unusedVariables false
/-- what lies in cells of type T lies as it lay -/
structure KpT (T : TypeId) (W W' : World) : Prop where
  size : W.heap.size ≤ W'.heap.size
  same : ∀ (b : Nat) (cs : Array Value) (fr : Nat × Nat), W.heap[b]? = some (.cells cs T fr) → W'.heap[b]? = some (.cells cs T fr)
theorem KpT.refl (T : TypeId) (W : World) : KpT T W W := ⟨Nat.le_refl _, fun _ _ _ h => h⟩
theorem KpT.trans {T : TypeId} {A B C : World} (h : KpT T A B) (k : KpT T B C) : KpT T A C := ⟨Nat.le_trans h.size k.size, fun b cs fr hb => k.same b cs fr (h.same b cs fr hb)⟩
theorem KpT.below {T : TypeId} {W W' : World} (h : Below W.heap.size W W') : KpT T W W' :=
  ⟨h.size, fun b cs fr hb => (h.block b (Array.getElem?_eq_some_iff.1 hb).1).trans hb⟩
theorem KpT.putObj {T : TypeId} {W : World} {l : Nat} {o : Obj} (o' : Obj) (h : W.heap[l]? = some o) (ho : o.isCells = false) : KpT T W (W.putObj l o') :=
  ⟨by simp [World.putObj], fun b cs fr hb => by
    have hne : b ≠ l := by rintro rfl; rw [h] at hb; injection hb with hb; subst hb; simp [Obj.isCells] at ho
    exact (World.putObj_heap_other hne).trans hb⟩
theorem KpT.grown {T : TypeId} {W W' : World} {row : Option Nat} (h : W.grownBy W' row) (hr : ∀ r, row = some r → ∀ (cs : Array Value) (fr : Nat × Nat), W.heap[r]? ≠ some (.cells cs T fr)) : KpT T W W' :=
  ⟨h.size, fun b cs fr hb => (h.block b (Array.getElem?_eq_some_iff.1 hb).1 (fun e => hr b e.symm cs fr hb)).trans hb⟩

/-- J abides what the iterator does between two rounds: new blocks, draws, a store into a block of type T from B on -/
structure AbT {β : Type} (B : Nat) (T : TypeId) (J : β → World → Prop) : Prop where
  alloc : ∀ (s : β) (W : World) (o : Obj), J s W → J s (W.alloc o)
  drew : ∀ (s : β) (W : World) (n : Nat), J s W → J s (W.drewN n)
  cell : ∀ (s : β) (W : World) (b i : Nat) (v : Value) (cs : Array Value) (fr : Nat × Nat), J s W → B ≤ b → W.heap[b]? = some (.cells cs T fr) → J s (W.setCell ⟨b, i, none⟩ v)

/-- the contract of such an iterator -/
def SeqT {α : Type} (F : Fence) (n : Nat) (P : Program) (T : TypeId) (g : Nat) (lb : Array Value) (encs : α → Array Value) (S Sp : List α → Prop) (N : Nat) (w : World) : Prop :=
  ∀ (l : Nat) (J Jx : List α → World → Prop) (W : World), Below w.heap.size w W → AbT W.heap.size T J → AbT W.heap.size T Jx →
    (∀ pre x W1, J pre W1 → pre.length < N → YieldAt F (n - 1) P l (encs x) W1 fun e W' =>
      (e = .returned (.bool true) ∧ J (pre ++ [x]) W' ∧ KpT T W1 W') ∨ (e = .returned (.bool false) ∧ Jx (pre ++ [x]) W')) →
    J [] W →
    CallsIn F n P g (#[.func (.yield l) #[] #[]] ++ lb) W fun e W' => (∃ v, e = .returned v) ∧ ((∃ xs, S xs ∧ J xs W') ∨ (∃ pre, Sp pre ∧ Jx pre W'))

variable {F : Fence} {n : Nat} {P : Program}
/-- the caller's law -/
theorem wpIn_range_T {α : Type} {g : Operand} {ps : Array Tmp} {assign body : Code} {Q : Exit → Act → World → Prop} {a : Act} {w : World} (T : TypeId)
    (hro : F.round = none) (h1 : 1 ≤ n) {gf : Nat} {lb : Array Value} (hg : a.eval g = .func (.func gf) #[] lb) (hFg : F.fn gf) (eg : ∀ args w, (callFunc gf args).run P w = .ok (.enter gf args) w)
    {encs : α → Array Value} {S Sp : List α → Prop} {N : Nat} {w0 : World} (hseq : SeqT F (n - 1) P T gf lb encs S Sp N w0)
    (hb0 : Below w0.heap.size w0 w) (hps : ∀ x, (encs x).size = ps.size)
    (I : List α → World → Prop) (Ix : Code → List α → World → Prop) (hI : OwnFrom w.heap.size I) (hIx : ∀ c, OwnFrom w.heap.size (Ix c))
    (hT : AbT w.heap.size T I) (hTx : ∀ c, AbT w.heap.size T (Ix c)) (h0 : I [] w) (Ax : α → Act → World → Prop) (hAx : ∀ a', OwnFrom w.heap.size (fun x W => Ax x a' W))
    (hassign : ∀ (l : Nat) (pre : List α) (x : α) (W : World) (K : Act → World → Prop), I pre W → (∀ a' W', KeepsOthers W W' → KpT T W W' → I pre W' → Ax x a' W' → K a' W') →
      assign.wpIn (F.inRound l) (n - 1 - 1) P (Exit.then K (fun _ _ _ => False)) { tmps := (ps.zip (encs x)).foldl (fun t (p, v) => t.setIfInBounds p v) a.tmps, defers := [] } W)
    (hbody : ∀ (l : Nat) (pre : List α) (x : α) (a' : Act) (W : World), I pre W → Ax x a' W → pre.length < N → body.wpIn (F.inRound l) (n - 1 - 1) P (ownPostK (KpT T) I Ix (pre ++ [x]) W) a' W)
    (hdone : ∀ (D : Nat) (xs : List α) (W : World), w.heap.size ≤ D → S xs → I xs W → W.heap[D]? = some (.deferred (some [])) → Q .normal { a with defers := { target := .collected D, args := #[] } :: a.defers } W)
    (hstop : ∀ (D : Nat) (c : Code) (pre : List α) (W : World), w.heap.size ≤ D → Sp pre → Ix c pre W → W.heap[D]? = some (.deferred (some [])) → c.wpIn F n P Q { a with defers := { target := .collected D, args := #[] } :: a.defers } W) :
    (Code.rangeFunc g ps assign body).wpIn F n P Q a w := by
  refine wpIn_rangeFunc fun fn hfn => ?_
  rw [hro]
  obtain ⟨lp, hlp⟩ : ∃ lp : LoopState → Option Code → Loop, lp = fun st pe => { state := st, pending := pe, fn, tmps := a.tmps, params := ps, assign, body, defers := w.heap.size } := ⟨_, rfl⟩
  obtain ⟨V, hV⟩ : ∃ V, (w.alloc (.deferred (some []))).alloc (.loop (lp .ready none)) = V := ⟨_, rfl⟩
  have vL : V.heap[w.heap.size + 1]? = some (.loop (lp .ready none)) := by
    have := World.alloc_heap_new (w.alloc (.deferred (some []))) (.loop (lp .ready none))
    rw [World.size_alloc] at this
    rw [← hV]; exact this
  have vD : V.heap[w.heap.size]? = some (.deferred (some [])) := by
    rw [← hV]; exact (Below.heap_alloc _ _ _ (by simp)).trans (World.alloc_heap_new w _)
  have vI : I [] V := by rw [← hV]; exact hT.alloc _ _ _ (hT.alloc _ _ _ h0)
  have vB : Below w0.heap.size w0 V := by
    rw [← hV]; exact hb0.trans ((((Below.refl _ w).alloc (Nat.le_refl _) _).alloc (by simp) _).mono hb0.size)
  have vs : w.heap.size ≤ V.heap.size := by rw [← hV]; simp; omega
  -- what the law keeps of its own lies in blocks that are no cells
  have keepCell : ∀ {W : World} {b i : Nat} {v : Value} {cs : Array Value} {fr : Nat × Nat} {k : Nat} {o : Obj}, W.heap[b]? = some (.cells cs T fr) → W.heap[k]? = some o → o.isCells = false → (W.setCell ⟨b, i, none⟩ v).heap[k]? = some o := by
    intro W b i v cs fr k o hb hk ho
    have hne : k ≠ b := by rintro rfl; rw [hb] at hk; injection hk with hk; subst hk; simp [Obj.isCells] at ho
    exact (Below.heap_setCell W ⟨b, i, none⟩ v k hne).trans hk
  have keepNew : ∀ {W : World} {k : Nat} {o : Obj} (o' : Obj), W.heap[k]? = some o → (W.alloc o').heap[k]? = some o := fun {W k o} o' hk => (Below.heap_alloc W o' k (Array.getElem?_eq_some_iff.1 hk).1).trans hk
  refine ⟨w.heap.size + 1, [{ target := .collected w.heap.size, args := #[] }], V, { target := .fn (.func gf) lb, args := #[.func (.yield (w.heap.size + 1)) #[] #[]] }, V, gf,
    #[.func (.yield (w.heap.size + 1)) #[] #[]] ++ lb, V, ?_, ?_, ?_, ?_, fun _ => h1, ?_⟩
  · rw [← hV, hlp]; exact run_enterLoop_outer _ _ _ _ _
  · simp only [resolve, hg]
    simp [go_sem]
  · intro f' hf'; simp [Target.leads] at hf'; subst hf'; exact hFg
  · simp [invoke, go_sem, eg]
  · refine (hseq (w.heap.size + 1)
      (fun pre W => I pre W ∧ W.heap[w.heap.size + 1]? = some (.loop (lp .ready none)) ∧ W.heap[w.heap.size]? = some (.deferred (some [])))
      (fun pre W => ∃ c, Ix c pre W ∧ W.heap[w.heap.size + 1]? = some (.loop (lp .done (some c))) ∧ W.heap[w.heap.size]? = some (.deferred (some [])))
      V vB
      ⟨fun s W o h => ⟨hT.alloc s W o h.1, keepNew o h.2.1, keepNew o h.2.2⟩, fun s W k h => ⟨hT.drew s W k h.1, h.2.1, h.2.2⟩,
        fun s W b i v cs fr h hb hc => ⟨hT.cell s W b i v cs fr h.1 (Nat.le_trans vs hb) hc, keepCell hc h.2.1 rfl, keepCell hc h.2.2 rfl⟩⟩
      ⟨fun s W o h => by obtain ⟨c, h1, h2, h3⟩ := h; exact ⟨c, (hTx c).alloc s W o h1, keepNew o h2, keepNew o h3⟩, fun s W k h => by obtain ⟨c, h1, h2, h3⟩ := h; exact ⟨c, (hTx c).drew s W k h1, h2, h3⟩,
        fun s W b i v cs fr h hb hc => by obtain ⟨c, h1, h2, h3⟩ := h; exact ⟨c, (hTx c).cell s W b i v cs fr h1 (Nat.le_trans vs hb) hc, keepCell hc h2 rfl, keepCell hc h3 rfl⟩⟩
      ?_ ⟨vI, vL, vD⟩).mono ?_
    · rintro pre x W ⟨hi, hl, hk⟩ hlen
      have hlt : w.heap.size + 1 < W.heap.size := (Array.getElem?_eq_some_iff.1 hl).1
      have hy := run_yield (P := P) (args := encs x) hl (by rw [hlp]; exact hps x)
      rw [hlp] at hy
      refine ⟨fn, _, assign, body, hy, roundIn_of_wpIn hfn (hassign _ pre x W _ hi fun a' Wa hka hkp hia hax => ?_)⟩
      have hl' := hka.same _ _ hl rfl
      have hk' := hka.same _ _ hk rfl
      have hlt' : w.heap.size + 1 < Wa.heap.size := (Array.getElem?_eq_some_iff.1 hl').1
      refine ⟨_, run_beginRound hl' (by rw [hlp]), ?_⟩
      obtain ⟨W2, hW2⟩ : ∃ W2, Wa.putObj (w.heap.size + 1) (.loop { lp .ready none with state := .busy }) = W2 := ⟨_, rfl⟩
      have l2 : W2.heap[w.heap.size + 1]? = some (.loop { lp .ready none with state := .busy }) := by rw [← hW2]; exact World.putObj_heap_same hlt'
      have k2 : W2.heap[w.heap.size]? = some (.deferred (some [])) := by rw [← hW2]; exact (World.putObj_heap_other (by omega)).trans hk'
      have q2 : KpT T W W2 := by rw [← hW2]; exact hkp.trans (KpT.putObj _ hl' rfl)
      have i2 : I pre W2 := by rw [← hW2]; exact hI.putObj _ hia (by omega) hl' rfl
      have x2 : Ax x a' W2 := by rw [← hW2]; exact (hAx a').putObj _ hax (by omega) hl' rfl
      rw [hW2]
      refine wpIn_mono (hbody _ pre x _ _ i2 x2 hlen) ?_
      have fin : ∀ (jump : Option Code) (W3 : World), KeepsOthers W2 W3 →
          (Instr.endRound (w.heap.size + 1) jump).run P W3 = .ok (.bool jump.isNone) (W3.putObj (w.heap.size + 1) (.loop (lp (if jump.isNone then .ready else .done) jump))) ∧
          W3.heap[w.heap.size + 1]? = some (.loop { lp .ready none with state := .busy }) ∧
          (W3.putObj (w.heap.size + 1) (.loop (lp (if jump.isNone then .ready else .done) jump))).heap[w.heap.size + 1]? = some (.loop (lp (if jump.isNone then .ready else .done) jump)) ∧
          (W3.putObj (w.heap.size + 1) (.loop (lp (if jump.isNone then .ready else .done) jump))).heap[w.heap.size]? = some (.deferred (some [])) := fun jump W3 hk3 => by
        have l3 := hk3.same _ _ l2 rfl
        have hr := run_endRound (P := P) jump l3
        refine ⟨by rw [hlp] at hr ⊢; exact hr, l3, World.putObj_heap_same (Array.getElem?_eq_some_iff.1 l3).1, (World.putObj_heap_other (by omega)).trans (hk3.same _ _ k2 rfl)⟩
      rintro e a3 W3 hp
      cases e with
      | normal =>
        obtain ⟨hk3, hkp3, hi3⟩ := hp
        obtain ⟨hr, hl3, hl4, hk4⟩ := fin none W3 hk3
        exact ⟨_, _, hr, .inl ⟨rfl, ⟨hI.putObj _ hi3 (by omega) hl3 rfl, hl4, hk4⟩, (q2.trans hkp3).trans (KpT.putObj _ hl3 rfl)⟩⟩
      | ret =>
        obtain ⟨hk3, hi3⟩ := hp
        obtain ⟨hr, hl3, hl4, hk4⟩ := fin (some .ret) W3 hk3
        exact ⟨_, _, hr, .inr ⟨rfl, .ret, (hIx _).putObj _ hi3 (by omega) hl3 rfl, hl4, hk4⟩⟩
      | exit id =>
        obtain ⟨hk3, hi3⟩ := hp
        obtain ⟨hr, hl3, hl4, hk4⟩ := fin (some (.exit id)) W3 hk3
        exact ⟨_, _, hr, .inr ⟨rfl, .exit id, (hIx _).putObj _ hi3 (by omega) hl3 rfl, hl4, hk4⟩⟩
      | goto t =>
        obtain ⟨hk3, hi3⟩ := hp
        obtain ⟨hr, hl3, hl4, hk4⟩ := fin (some (.goto t)) W3 hk3
        exact ⟨_, _, hr, .inr ⟨rfl, .goto t, (hIx _).putObj _ hi3 (by omega) hl3 rfl, hl4, hk4⟩⟩
      | panic ch => exact hp.elim
      | outgrown => exact hp.elim
    · rintro e W2 ⟨⟨v, rfl⟩, (⟨xs, hS, hi, hl, hk⟩ | ⟨pre, hSp, c, hi, hl, hk⟩)⟩
      · exact ⟨none, _, by have := run_endLoop (P := P) hl (by rw [hlp]; simp); rw [hlp] at this; exact this, hdone _ xs _ (Nat.le_refl _) hS (hI.putObj _ hi (by omega) hl rfl) ((World.putObj_heap_other (by omega)).trans hk)⟩
      · exact ⟨some c, _, by have := run_endLoop (P := P) hl (by rw [hlp]; simp); rw [hlp] at this; exact this, hstop _ c pre _ (Nat.le_refl _) hSp ((hIx c).putObj _ hi (by omega) hl rfl) ((World.putObj_heap_other (by omega)).trans hk)⟩

theorem room_none {F : Fence} (hd : F.depth = none) (k : Nat) : F.room k := fun d h => by rw [hd] at h; cases h
/-- where no depth is asked the figures are all one -/
theorem yieldAt_any {F : Fence} (hd : F.depth = none) {m : Nat} (m' : Nat) {P : Program} {l : Nat} {args : Array Value} {W : World} {R : Ending → World → Prop} (h : YieldAt F m P l args W R) : YieldAt F m' P l args W R := by
  obtain ⟨fn, tmps, assign, body, hy, hR⟩ := h
  exact ⟨fn, tmps, assign, body, hy, ⟨hR.1, fun c cs _ => hR.2 c cs (room_none hd _)⟩⟩
theorem wpListIn_load_row {F : Fence} {n : Nat} {P : Program} {ops : Array Oper} {rest : List Oper} {o : Oper} {a : Act} {w : World} {Q : Exit → Act → World → Prop} (hgd : o.guard = none) (ty : TypeId) (x : Operand) (ho : o.op = .load ty x)
    (g : Nat) (hx : a.eval x = .pointer (some ⟨g, 0, none⟩)) (t : TypeId) (cs : Array Value) (fr : Nat × Nat) (d : TypeDesc) (hg : w.heap[g]? = some (.cells cs t fr))
    (hu : P.underlying ty = some d) (hd : (match d with | .struct _ | .array _ _ => true | _ => false) = true) (hi : (P.info? ty).map (·.size) = some cs.size)
    (h : wpListIn F n P ops Q rest (a.put o.dst (.agg cs)) w) : wpListIn F n P ops Q (o :: rest) a w :=
  wpListIn_plain hgd fun K hK => by
    unfold Oper.wpIn
    refine ⟨by simp [Oper.about, ho], ?_⟩
    rw [Oper.semAt_plain F _ _ (by rw [ho]; intro c hc; cases hc)]
    simp only [execOp, ho, hx, Instr.loadAt, Instr.sureAddr, Sem.run_bind, Sem.run_pure, Result.andThen_ok, run_loadVar_row w g t ty cs fr d hg hu hd hi]
    exact hK _ _ h
theorem wpListIn_store_row {F : Fence} {n : Nat} {P : Program} {ops : Array Oper} {rest : List Oper} {o : Oper} {a : Act} {w : World} {Q : Exit → Act → World → Prop} (hgd : o.guard = none) (ty : TypeId) (x v : Operand) (ho : o.op = .store ty x v)
    (g : Nat) (vs : Array Value) (hx : a.eval x = .pointer (some ⟨g, 0, none⟩)) (hv : a.eval v = .agg vs) (hrun : (storeVar ty ⟨g, 0, none⟩ (.agg vs)).run P w = .ok () (w.setRow g vs))
    (h : wpListIn F n P ops Q rest (a.put o.dst undef) (w.setRow g vs)) : wpListIn F n P ops Q (o :: rest) a w :=
  wpListIn_plain hgd fun K hK => by
    unfold Oper.wpIn
    refine ⟨by simp [Oper.about, ho], ?_⟩
    rw [Oper.semAt_plain F _ _ (by rw [ho]; intro c hc; cases hc)]
    simp only [execOp, ho, hx, hv, Instr.storeAt, Instr.sureAddr, Sem.run_bind, Sem.run_pure, Result.andThen_ok, hrun]
    exact hK _ _ h
end Go.Proofs.YtmlomapifldlpaaDoor
namespace Go.Proofs.YtmlomapifldlpaaDoor
namespace NP
def allQ : Nat → Nat → Nat → List (List Int)
  | 0, n, _ => if n = 0 then [[]] else []
  | f + 1, n, most => if n = 0 then [[]] else (List.range (min n most)).reverse.flatMap fun i => (allQ f (n - (i + 1)) (i + 1)).map fun R => ((i + 1 : Nat) : Int) :: R
def pieceQ (f n i : Nat) : List (List Int) := (allQ f (n - (i + 1)) (i + 1)).map fun R => ((i + 1 : Nat) : Int) :: R
def upQ (f n top j : Nat) : List (List Int) := ((List.range top).reverse.take j).flatMap (pieceQ f n)
theorem upQ_zero (f n top : Nat) : upQ f n top 0 = [] := by simp [upQ]
theorem upQ_succ (f n top j : Nat) (h : j < top) : upQ f n top (j + 1) = upQ f n top j ++ pieceQ f n (top - 1 - j) := by
  have hl : j < (List.range top).reverse.length := by simpa using h
  unfold upQ
  rw [List.take_succ_eq_append_getElem hl, List.flatMap_append]
  congr 1
  simp
theorem allQ_zero (f most : Nat) : allQ f 0 most = [[]] := by cases f <;> simp [allQ]
theorem allQ_up (f n most : Nat) (h : n ≠ 0) : allQ (f + 1) n most = upQ f n (min n most) (min n most) := by
  have : (allQ (f + 1) n most) = (List.range (min n most)).reverse.flatMap (pieceQ f n) := by
    rw [allQ, if_neg h]; rfl
  rw [this, upQ, List.take_of_length_le (by simp)]
/-- enough fuel is enough -/
theorem allQ_fuel : ∀ (f n most : Nat), n ≤ f → allQ (f + 1) n most = allQ f n most := by
  intro f
  induction f with
  | zero =>
      intro n most h
      obtain rfl : n = 0 := (by omega)
      rw [allQ_zero, allQ_zero]
  | succ f ih =>
    intro n most h
    by_cases h0 : n = 0
    · subst h0; rw [allQ_zero, allQ_zero]
    · rw [allQ_up _ _ _ h0, allQ_up _ _ _ h0]
      have : pieceQ (f + 1) n = pieceQ f n := by
        funext i
        unfold pieceQ
        by_cases hi : n = 0
        · exact absurd hi h0
        · rw [ih (n - (i + 1)) (i + 1) (by omega)]
      unfold upQ
      rw [this]
/-- heads ahead of each -/
theorem map_piece (H : List Int) (f n i : Nat) : (pieceQ f n i).map (fun R => H ++ R) = (allQ f (n - (i + 1)) (i + 1)).map (fun R => (H ++ [((i + 1 : Nat) : Int)]) ++ R) := by
  unfold pieceQ
  rw [List.map_map]
  congr 1
  funext R
  simp
end NP
end Go.Proofs.YtmlomapifldlpaaDoor
namespace Go.Proofs.YtmlomapifldlpaaDoor
open Go.RowKit Go.Shelf NP
set_option maxRecDepth 8000
set_option linter.unusedVariables false
set_option linter.unusedSimpArgs false
attribute [local go_sem] Oper.semAt_some
abbrev VL := { x : List Int // valid x = true }
def topQ (L : List Int) (m : Nat) : Nat := if L.length = 0 then m else (L.getD (L.length - 1) 0).toNat
theorem upQ_leJ (f n top : Nat) : ∀ {j k : Nat}, j ≤ k → (upQ f n top j).length ≤ (upQ f n top k).length := by
  intro j k h
  unfold upQ
  have e : (List.range top).reverse.take k = (List.range top).reverse.take j ++ ((List.range top).reverse.take k).drop j := by
    conv => lhs; rw [← List.take_append_drop j ((List.range top).reverse.take k)]
    rw [List.take_take, Nat.min_eq_left h]
  rw [e, List.flatMap_append, List.length_append]
  omega
theorem upQ_pre (f n top : Nat) : ∀ {j k : Nat}, j ≤ k → upQ f n top j <+: upQ f n top k := by
  intro j k h
  unfold upQ
  have e : (List.range top).reverse.take k = (List.range top).reverse.take j ++ ((List.range top).reverse.take k).drop j := by
    conv => lhs; rw [← List.take_append_drop j ((List.range top).reverse.take k)]
    rw [List.take_take, Nat.min_eq_left h]
  rw [e, List.flatMap_append]
  exact List.prefix_append _ _
theorem KpT.setNew {T : TypeId} {W wr : World} (h : KpT T W wr) {b i : Nat} {v : Value} (hb : W.heap.size ≤ b) : KpT T W (wr.setCell ⟨b, i, none⟩ v) :=
  ⟨by have := h.size; simpa [World.setCell] using this, fun k cs fr hk => by
    have hlt := (Array.getElem?_eq_some_iff.1 hk).1
    exact (Below.heap_setCell wr ⟨b, i, none⟩ v k (by show k ≠ b; omega)).trans (h.same k cs fr hk)⟩
theorem valid_snoc {L : List Int} (hv : valid L = true) {p m : Nat} (h1 : 1 ≤ p) (h2 : sumL L + (p : Int) ≤ 16) (h3 : 0 < L.length → (p : Int) ≤ L.getD (L.length - 1) 0) : valid (L ++ [(p : Int)]) = true := by
  apply valid_of_preS
  · intro j hj _
    have hl := (valid_bd hv)
    rcases Nat.lt_or_ge j L.length with h | h
    · have hp := preS_of_valid hv j h h
      rw [List.getElem_append_left h]
      refine ⟨hp.1, hp.2.1, fun h0 => ?_⟩
      rw [List.getElem_append_left (by omega)]
      exact hp.2.2 h0
    · obtain rfl : j = L.length := by simp at hj; omega
      rw [List.getElem_append_right (Nat.le_refl _)]
      simp only [Nat.sub_self, List.getElem_cons_zero]
      refine ⟨by omega, by have := hl.1; omega, fun h0 => ?_⟩
      rw [List.getElem_append_left (by omega), ← getD_lt (by omega)]
      exact h3 h0
  · rw [sumL_append]; simpa [sumL] using h2
theorem topQ_snoc (L : List Int) (p m : Nat) : topQ (L ++ [(p : Int)]) m = p := by
  unfold topQ
  rw [if_neg (by simp), List.getD_eq_getElem?_getD]
  simp
theorem pad_snoc {L : List Int} (h : L.length < 16) (x : Int) : (pad L).set L.length x = pad (L ++ [x]) := by
  have e := pad_set (L := L ++ [x]) (k := L.length) (by simp) h
  rw [List.take_left, List.getElem_append_right (Nat.le_refl _)] at e
  simp only [Nat.sub_self, List.getElem_cons_zero] at e
  rw [e, List.take_of_length_le (by simp)]

set_option maxRecDepth 100000 in
set_option maxHeartbeats 4000000 in
theorem dfrom_zero (F : Fence) (hd : F.depth = none) (hf : F.fn 53) (hro : F.round = none) (l B N : Nat) (J Jx : List VL → World → Prop) (hJ : AbT B 68 J) (hJx : AbT B 68 Jx)
    (hY : ∀ m pre (x : VL) W, J pre W → pre.length < N → YieldAt F m Tryd.prog l #[.agg (arr (pad x.1))] W fun e W' =>
      (e = .returned (.bool true) ∧ J (pre ++ [x]) W' ∧ KpT 68 W W') ∨ (e = .returned (.bool false) ∧ Jx (pre ++ [x]) W'))
    (f : Nat) (L : List Int) (n : Nat) (pre : List VL) (W : World) (hv : valid L = true) (hj : J pre W) (hN : pre.length + 1 ≤ N) (hB : B ≤ W.heap.size) :
      CallsIn F n Tryd.prog 53 #[.agg (arr (pad L)), .int .i64 L.length, .int .i64 0, .func (.yield l) #[] #[]] W fun e W' =>
        (e = .returned (.bool true) ∧ (∃ xs : List VL, xs.map (·.1) = (allQ f 0 (topQ L 0)).map (L ++ ·) ∧ J (pre ++ xs) W') ∧ KpT 68 W W') ∨
        (e = .returned (.bool false) ∧ ∃ xs : List VL, xs.map (·.1) <+: (allQ f 0 (topQ L 0)).map (L ++ ·) ∧ Jx (pre ++ xs) W') := by
  have hdd : ∀ k : Nat, (F.depth.isSome = true → 1 ≤ k) := fun k h => by rw [hd] at h; cases h
  have hlen : L.length ≤ 16 := (valid_bd hv).2.2.2
  have hi16 : (Tryd.prog.info? 68).map (·.size) = some (arr (pad L)).size := by rw [arr_size, pad_len hlen]; exact T_info35
  have hb := Blk.new W 68 (arr (pad L))
  have hj1 := hJ.alloc _ _ (.cells (arr (pad L)) 68) hj
  rw [allQ_zero]
  obtain ⟨fn, tmps, assign, body, hy, hR⟩ := hY (n - 1) pre ⟨L, hv⟩ _ hj1 (by omega)
  have hkp : KpT 68 W (W.alloc (.cells (arr (pad L)) 68)) := KpT.below ((Below.refl _ _).alloc (Nat.le_refl _) _)
  dsimp only at hy
  refine callsIn_of_wp Tryd.func53 rfl hf ?_ hro
  simp only [Tryd.ntmps53, List.size_toArray, List.length_cons, List.length_nil, Nat.reduceAdd, Nat.reduceSub, Array.replicate_succ, Array.replicate_zero, List.push_toArray, List.append_toArray, List.nil_append, List.cons_append]
  gi_wp2_with (first
    | (refine wpListIn_load_row rfl 68 (.tmp 4) rfl W.heap.size rfl 68 (arr (pad L)) (0, 0) _ hb Tryd.underlying68 rfl hi16 ?_)
    | ((try refine ⟨hdd _, ?_⟩); refine hR.mono ?_; clear hR; rintro e W1 (⟨rfl, hJ1, hk1⟩ | ⟨rfl, hx1⟩)))
  · go_ret
    exact .inl ⟨rfl, ⟨[⟨L, hv⟩], by simp, hJ1⟩, hkp.trans hk1⟩
  · go_ret
    exact .inr ⟨rfl, [⟨L, hv⟩], by simp, hx1⟩

set_option maxRecDepth 100000 in
set_option maxHeartbeats 4000000 in
theorem dfrom_in (F : Fence) (hd : F.depth = none) (hf : F.fn 53) (hro : F.round = none) (l B N : Nat) (J Jx : List VL → World → Prop) (hJ : AbT B 68 J) (hJx : AbT B 68 Jx)
    (hY : ∀ m pre (x : VL) W, J pre W → pre.length < N → YieldAt F m Tryd.prog l #[.agg (arr (pad x.1))] W fun e W' =>
      (e = .returned (.bool true) ∧ J (pre ++ [x]) W' ∧ KpT 68 W W') ∨ (e = .returned (.bool false) ∧ Jx (pre ++ [x]) W')) :
    ∀ (f : Nat) (L : List Int) (m n : Nat) (pre : List VL) (W : World), m ≤ f → valid L = true → sumL L + (m : Int) ≤ 16 → J pre W → pre.length + (allQ f m (topQ L m)).length ≤ N → B ≤ W.heap.size →
      CallsIn F n Tryd.prog 53 #[.agg (arr (pad L)), .int .i64 L.length, .int .i64 m, .func (.yield l) #[] #[]] W fun e W' =>
        (e = .returned (.bool true) ∧ (∃ xs : List VL, xs.map (·.1) = (allQ f m (topQ L m)).map (L ++ ·) ∧ J (pre ++ xs) W') ∧ KpT 68 W W') ∨
        (e = .returned (.bool false) ∧ ∃ xs : List VL, xs.map (·.1) <+: (allQ f m (topQ L m)).map (L ++ ·) ∧ Jx (pre ++ xs) W') := by
  have hdd : ∀ k : Nat, (F.depth.isSome = true → 1 ≤ k) := fun k h => by rw [hd] at h; cases h
  intro f
  induction f with
  | zero =>
    intro L m n pre W hm hv hs hj hN hB
    obtain rfl : m = 0 := by omega
    rw [allQ_zero] at hN
    exact dfrom_zero F hd hf hro l B N J Jx hJ hJx hY 0 L n pre W hv hj (by simpa using hN) hB
  | succ f ih =>
    intro L m n pre W hm hv hs hj hN hB
    by_cases h0 : m = 0
    · subst h0
      rw [allQ_zero] at hN
      exact dfrom_zero F hd hf hro l B N J Jx hJ hJx hY (f + 1) L n pre W hv hj (by simpa using hN) hB
    have hbd := valid_bd hv
    have hlen : L.length ≤ 16 := hbd.2.2.2
    have hlen2 : L.length < 16 := by omega
    have hb := Blk.new W 68 (arr (pad L))
    have hj1 := hJ.alloc _ _ (.cells (arr (pad L)) 68) hj
    have hkp : KpT 68 W (W.alloc (.cells (arr (pad L)) 68)) := KpT.below ((Below.refl _ _).alloc (Nat.le_refl _) _)
    rw [allQ_up f m _ h0] at hN ⊢
    obtain ⟨T0, hT0⟩ : ∃ T0, T0 = min m (topQ L m) := ⟨_, rfl⟩
    rw [← hT0] at hN ⊢
    have htop : topQ L m ≤ 16 ∧ (0 < L.length → ((topQ L m : Nat) : Int) = L.getD (L.length - 1) 0) ∧ (L.length = 0 → topQ L m = m) := by
      unfold topQ
      by_cases hl0 : L.length = 0
      · rw [if_pos hl0]; exact ⟨by omega, fun h => by omega, fun _ => rfl⟩
      · rw [if_neg hl0]
        have := getD_nn hv (L.length - 1)
        exact ⟨by omega, fun _ => by omega, fun h => absurd h hl0⟩
    have hm0 : ((m : Int) == 0) = false := by simp; omega
    have HV := Lib.hid hv
    have HN := Lib.hid hN
    have HT := Lib.hid hT0
    have HTP := Lib.hid htop
    have HIH := Lib.hid ih
    clear hv hN ih hT0 htop
    -- the greatest part that may come
    have key : ∀ W1, W1 = W.alloc (.cells (arr (pad L)) 68) → True := fun _ _ => trivial
    clear key
    refine callsIn_of_wp Tryd.func53 rfl hf ?_ hro
    simp only [Tryd.ntmps53, List.size_toArray, List.length_cons, List.length_nil, Nat.reduceAdd, Nat.reduceSub, Array.replicate_succ, Array.replicate_zero, List.push_toArray, List.append_toArray, List.nil_append, List.cons_append]
    by_cases hl0 : L.length = 0
    · have e0 : T0 = m := by rw [HT.out, HTP.out.2.2 hl0]; omega
      have HE0 : Hid ((m : Int) = (T0 : Int)) := Lib.hid (by omega)
      have d1 : decide ((0 : Int) < (L.length : Int)) = false := decide_eq_false (by omega)
      have d1' : decide (0 < L.length) = false := decide_eq_false (by omega)
      clear e0
      have HL0 := Lib.hid hl0
      clear hl0
      gi_wp2
      gi_loopw [10] (fun v wr => ∃ (j : Nat) (xs : List VL) (D : List Int), j ≤ T0 ∧ v = .int .i64 ((T0 : Int) - (j : Int)) ∧ xs.map (·.1) = (upQ f m T0 j).map (L ++ ·) ∧ J (pre ++ xs) wr ∧ KpT 68 W wr ∧ Blk wr W.heap.size 68 (arr D) ∧ D.length = 16 ∧ (∀ p, D.set L.length p = (pad L).set L.length p)) (fun v _ => (intOf v).toNat)
      case atStart => exact ⟨0, [], pad L, Nat.zero_le _, by simp [HE0.out], by simp [upQ_zero], by simpa using hj1, hkp, hb, pad_len hlen, fun _ => rfl⟩
      case round =>
        obtain ⟨j, xs, D, hj, rfl, hxs, hJs, hks, hblk, hDl, hDs⟩ := hrel
        clear hb hj1 hkp
        by_cases hlt : j < T0
        · obtain ⟨p, hp⟩ : ∃ p : Nat, p = T0 - j := ⟨_, rfl⟩
          have hpv : (T0 : Int) - (j : Int) = (p : Int) := by omega
          have hp1 : 1 ≤ p := by omega
          have hT := HT.out
          have hpm : p ≤ m := by omega
          have hpt : 0 < L.length → (p : Int) ≤ L.getD (L.length - 1) 0 := fun h => by have := HTP.out.2.1 h; omega
          have hvp := valid_snoc HV.out (p := p) (m := m) hp1 (by omega) hpt
          have hset : D.set L.length (p : Int) = pad (L ++ [(p : Int)]) := by rw [hDs, pad_snoc hlen2]
          have hblk2 := hblk.set L.length (.int .i64 (p : Int))
          rw [arr_set, hset] at hblk2
          have hJ2 := hJ.cell _ _ _ L.length (.int .i64 (p : Int)) _ _ hJs hB hblk
          have hks2 := hks.setNew (i := L.length) (v := .int .i64 (p : Int)) (Nat.le_refl W.heap.size)
          have hcz : wr.cell? ⟨W.heap.size, L.length, none⟩ = some ((arr D)[L.length]?.getD undef) := by
            rw [hblk.cell L.length]
            have : L.length < (arr D).size := by rw [arr_size, hDl]; omega
            simp [this]
          have hfz : wr.frozen? ⟨W.heap.size, L.length, none⟩ = false := hblk.free _
          have hi16 : (Tryd.prog.info? 68).map (·.size) = some (arr (pad (L ++ [(p : Int)]))).size := by rw [arr_size, pad_len (valid_bd hvp).2.2.2]; exact T_info35
          have hup := upQ_succ f m T0 j hlt
          have hpi : T0 - 1 - j = p - 1 := by omega
          have hpc : pieceQ f m (p - 1) = (allQ f (m - p) p).map fun R => ((p : Nat) : Int) :: R := by unfold pieceQ; rw [show p - 1 + 1 = p by omega]
          have hle := upQ_leJ f m T0 (j := j + 1) (k := T0) hlt
          rw [hup, List.length_append, hpi, hpc, List.length_map] at hle
          have hxl : xs.length = (upQ f m T0 j).length := by have := congrArg List.length hxs; simpa using this
          have hih := HIH.out (L ++ [(p : Int)]) (m - p) (n - 1) (pre ++ xs) _ (by omega) hvp (by rw [sumL_append]; simp only [sumL]; omega) hJ2 (by rw [topQ_snoc, List.length_append]; have := HN.out; omega) (by have := hks2.size; omega)
          rw [topQ_snoc, show (((L ++ [(p : Int)]).length : Nat) : Int) = (L.length : Int) + 1 by simp, show ((m - p : Nat) : Int) = (m : Int) - (p : Int) by omega] at hih
          have hw1 : IntKind.i64.wrap ((L.length : Int) + 1) = (L.length : Int) + 1 := IntWalk.i64_in _ (by omega)
          have hw2 : IntKind.i64.wrap ((m : Int) - (p : Int)) = (m : Int) - (p : Int) := IntWalk.i64_in _ (by omega)
          have hw3 : IntKind.i64.wrap ((p : Int) - 1) = (p : Int) - 1 := IntWalk.i64_in _ (by omega)
          have hge : decide ((1 : Int) ≤ (p : Int)) = true := decide_eq_true (by omega)
          have hl16 : (L.length : Int) < 16 := by omega
          have HXS := Lib.hid hxs
          have HUP := Lib.hid hup
          have HSET := Lib.hid hset
          have HPC := Lib.hid hpc
          have HPI := Lib.hid hpi
          clear hxs hup hle hxl hset hpc hpi hJs hDs hT hp
          rw [hpv]
          gi_wp2_with (first
            | (refine wpListIn_load_row rfl 68 (.tmp 4) rfl W.heap.size rfl 68 (arr (pad (L ++ [(p : Int)]))) (0, 0) _ hblk2 Tryd.underlying68 rfl hi16 ?_)
            | ((try refine ⟨hdd _, ?_⟩); gi_at_call 53; refine hih.mono ?_; clear hih; rintro e W2 (⟨rfl, ⟨ys, hys, hJ3⟩, hk3⟩ | ⟨rfl, ys, hys, hx3⟩)))
          · go_roundw
            case rel =>
              refine ⟨j + 1, xs ++ ys, pad (L ++ [(p : Int)]), by omega, by congr 1; omega, ?_, by rw [← List.append_assoc]; exact hJ3, hks2.trans hk3, hk3.same _ _ _ hblk2, pad_len (valid_bd hvp).2.2.2, fun q => by rw [← pad_snoc hlen2, List.set_set]⟩
              rw [List.map_append, HXS.out, hys, HUP.out, List.map_append, HPI.out, HPC.out, List.map_map]
              congr 1
              apply List.map_congr_left
              intro R _
              simp
            case measure => simp [intOf]; omega
          · go_ret
            refine .inr ⟨rfl, xs ++ ys, ?_, by rw [← List.append_assoc]; exact hx3⟩
            have h1 : (upQ f m T0 (j + 1)).map (L ++ ·) <+: (upQ f m T0 T0).map (L ++ ·) := (upQ_pre f m T0 hlt).map _
            refine List.IsPrefix.trans ?_ h1
            rw [List.map_append, HXS.out, HUP.out, List.map_append, HPI.out, HPC.out, List.map_map]
            have e : (allQ f (m - p) p).map ((fun x => L ++ x) ∘ fun R => ((p : Nat) : Int) :: R) = (allQ f (m - p) p).map (fun R => (L ++ [(p : Int)]) ++ R) := by
              apply List.map_congr_left
              intro R _
              simp
            rw [e]
            exact (List.prefix_append_right_inj _).2 hys
        · obtain rfl : j = T0 := by omega
          have hpv : (j : Int) - (j : Int) = 0 := by omega
          rw [hpv]
          gi_wp2
          go_ret
          exact .inl ⟨rfl, ⟨xs, hxs, hJs⟩, hks⟩
    · have hlp : 0 < L.length := by omega
      have d1 : decide ((0 : Int) < (L.length : Int)) = true := decide_eq_true (by omega)
      have d1' : decide (0 < L.length) = true := decide_eq_true hlp
      have hl1 : L.length - 1 < (pad L).length := by rw [pad_len hlen]; omega
      have hcl : (W.alloc (.cells (arr (pad L)) 68)).cell? ⟨W.heap.size, L.length - 1, none⟩ = some (.int .i64 ((topQ L m : Nat) : Int)) := by
        rw [hb.cell, arr_get _ _ hl1, ← getD_lt hl1, pad_getD hlen, HTP.out.2.1 hlp]
      have hwl : IntKind.i64.wrap ((L.length : Int) - 1) = (L.length : Int) - 1 := IntWalk.i64_in _ (by omega)
      have hnn1 : (0 : Int) ≤ (L.length : Int) - 1 := by omega
      have hnn2 : (L.length : Int) - 1 < 16 := by omega
      have hnn3 : ((L.length : Int) - 1).toNat = L.length - 1 := by omega
      have HL0 := Lib.hid hl0
      clear hl0
      by_cases hcs : ((topQ L m : Nat) : Int) < (m : Int)
      · have hif : (((topQ L m : Nat) : Int) < (m : Int)) = True := by simpa using hcs
        have hif2 : (topQ L m < m) = True := by simp; omega
        have HE0 : Hid (((topQ L m : Nat) : Int) = (T0 : Int)) := Lib.hid (by rw [HT.out]; omega)
        clear hcs
        gi_wp2
        gi_loopw [10] (fun v wr => ∃ (j : Nat) (xs : List VL) (D : List Int), j ≤ T0 ∧ v = .int .i64 ((T0 : Int) - (j : Int)) ∧ xs.map (·.1) = (upQ f m T0 j).map (L ++ ·) ∧ J (pre ++ xs) wr ∧ KpT 68 W wr ∧ Blk wr W.heap.size 68 (arr D) ∧ D.length = 16 ∧ (∀ p, D.set L.length p = (pad L).set L.length p)) (fun v _ => (intOf v).toNat)
        case atStart => exact ⟨0, [], pad L, Nat.zero_le _, by simp [HE0.out], by simp [upQ_zero], by simpa using hj1, hkp, hb, pad_len hlen, fun _ => rfl⟩
        case round =>
          obtain ⟨j, xs, D, hj, rfl, hxs, hJs, hks, hblk, hDl, hDs⟩ := hrel
          clear hb hj1 hkp
          by_cases hlt : j < T0
          · obtain ⟨p, hp⟩ : ∃ p : Nat, p = T0 - j := ⟨_, rfl⟩
            have hpv : (T0 : Int) - (j : Int) = (p : Int) := by omega
            have hp1 : 1 ≤ p := by omega
            have hT := HT.out
            have hpm : p ≤ m := by omega
            have hpt : 0 < L.length → (p : Int) ≤ L.getD (L.length - 1) 0 := fun h => by have := HTP.out.2.1 h; omega
            have hvp := valid_snoc HV.out (p := p) (m := m) hp1 (by omega) hpt
            have hset : D.set L.length (p : Int) = pad (L ++ [(p : Int)]) := by rw [hDs, pad_snoc hlen2]
            have hblk2 := hblk.set L.length (.int .i64 (p : Int))
            rw [arr_set, hset] at hblk2
            have hJ2 := hJ.cell _ _ _ L.length (.int .i64 (p : Int)) _ _ hJs hB hblk
            have hks2 := hks.setNew (i := L.length) (v := .int .i64 (p : Int)) (Nat.le_refl W.heap.size)
            have hcz : wr.cell? ⟨W.heap.size, L.length, none⟩ = some ((arr D)[L.length]?.getD undef) := by
              rw [hblk.cell L.length]
              have : L.length < (arr D).size := by rw [arr_size, hDl]; omega
              simp [this]
            have hfz : wr.frozen? ⟨W.heap.size, L.length, none⟩ = false := hblk.free _
            have hi16 : (Tryd.prog.info? 68).map (·.size) = some (arr (pad (L ++ [(p : Int)]))).size := by rw [arr_size, pad_len (valid_bd hvp).2.2.2]; exact T_info35
            have hup := upQ_succ f m T0 j hlt
            have hpi : T0 - 1 - j = p - 1 := by omega
            have hpc : pieceQ f m (p - 1) = (allQ f (m - p) p).map fun R => ((p : Nat) : Int) :: R := by unfold pieceQ; rw [show p - 1 + 1 = p by omega]
            have hle := upQ_leJ f m T0 (j := j + 1) (k := T0) hlt
            rw [hup, List.length_append, hpi, hpc, List.length_map] at hle
            have hxl : xs.length = (upQ f m T0 j).length := by have := congrArg List.length hxs; simpa using this
            have hih := HIH.out (L ++ [(p : Int)]) (m - p) (n - 1) (pre ++ xs) _ (by omega) hvp (by rw [sumL_append]; simp only [sumL]; omega) hJ2 (by rw [topQ_snoc, List.length_append]; have := HN.out; omega) (by have := hks2.size; omega)
            rw [topQ_snoc, show (((L ++ [(p : Int)]).length : Nat) : Int) = (L.length : Int) + 1 by simp, show ((m - p : Nat) : Int) = (m : Int) - (p : Int) by omega] at hih
            have hw1 : IntKind.i64.wrap ((L.length : Int) + 1) = (L.length : Int) + 1 := IntWalk.i64_in _ (by omega)
            have hw2 : IntKind.i64.wrap ((m : Int) - (p : Int)) = (m : Int) - (p : Int) := IntWalk.i64_in _ (by omega)
            have hw3 : IntKind.i64.wrap ((p : Int) - 1) = (p : Int) - 1 := IntWalk.i64_in _ (by omega)
            have hge : decide ((1 : Int) ≤ (p : Int)) = true := decide_eq_true (by omega)
            have hl16 : (L.length : Int) < 16 := by omega
            have HXS := Lib.hid hxs
            have HUP := Lib.hid hup
            have HSET := Lib.hid hset
            have HPC := Lib.hid hpc
            have HPI := Lib.hid hpi
            clear hxs hup hle hxl hset hpc hpi hJs hDs hT hp
            rw [hpv]
            gi_wp2_with (first
              | (refine wpListIn_load_row rfl 68 (.tmp 4) rfl W.heap.size rfl 68 (arr (pad (L ++ [(p : Int)]))) (0, 0) _ hblk2 Tryd.underlying68 rfl hi16 ?_)
              | ((try refine ⟨hdd _, ?_⟩); gi_at_call 53; refine hih.mono ?_; clear hih; rintro e W2 (⟨rfl, ⟨ys, hys, hJ3⟩, hk3⟩ | ⟨rfl, ys, hys, hx3⟩)))
            · go_roundw
              case rel =>
                refine ⟨j + 1, xs ++ ys, pad (L ++ [(p : Int)]), by omega, by congr 1; omega, ?_, by rw [← List.append_assoc]; exact hJ3, hks2.trans hk3, hk3.same _ _ _ hblk2, pad_len (valid_bd hvp).2.2.2, fun q => by rw [← pad_snoc hlen2, List.set_set]⟩
                rw [List.map_append, HXS.out, hys, HUP.out, List.map_append, HPI.out, HPC.out, List.map_map]
                congr 1
                apply List.map_congr_left
                intro R _
                simp
              case measure => simp [intOf]; omega
            · go_ret
              refine .inr ⟨rfl, xs ++ ys, ?_, by rw [← List.append_assoc]; exact hx3⟩
              have h1 : (upQ f m T0 (j + 1)).map (L ++ ·) <+: (upQ f m T0 T0).map (L ++ ·) := (upQ_pre f m T0 hlt).map _
              refine List.IsPrefix.trans ?_ h1
              rw [List.map_append, HXS.out, HUP.out, List.map_append, HPI.out, HPC.out, List.map_map]
              have e : (allQ f (m - p) p).map ((fun x => L ++ x) ∘ fun R => ((p : Nat) : Int) :: R) = (allQ f (m - p) p).map (fun R => (L ++ [(p : Int)]) ++ R) := by
                apply List.map_congr_left
                intro R _
                simp
              rw [e]
              exact (List.prefix_append_right_inj _).2 hys
          · obtain rfl : j = T0 := by omega
            have hpv : (j : Int) - (j : Int) = 0 := by omega
            rw [hpv]
            gi_wp2
            go_ret
            exact .inl ⟨rfl, ⟨xs, hxs, hJs⟩, hks⟩
      · have hif : (((topQ L m : Nat) : Int) < (m : Int)) = False := by simpa using hcs
        have hif2 : (topQ L m < m) = False := by simp; omega
        have HE0 : Hid ((m : Int) = (T0 : Int)) := Lib.hid (by rw [HT.out]; omega)
        clear hcs
        gi_wp2
        gi_loopw [10] (fun v wr => ∃ (j : Nat) (xs : List VL) (D : List Int), j ≤ T0 ∧ v = .int .i64 ((T0 : Int) - (j : Int)) ∧ xs.map (·.1) = (upQ f m T0 j).map (L ++ ·) ∧ J (pre ++ xs) wr ∧ KpT 68 W wr ∧ Blk wr W.heap.size 68 (arr D) ∧ D.length = 16 ∧ (∀ p, D.set L.length p = (pad L).set L.length p)) (fun v _ => (intOf v).toNat)
        case atStart => exact ⟨0, [], pad L, Nat.zero_le _, by simp [HE0.out], by simp [upQ_zero], by simpa using hj1, hkp, hb, pad_len hlen, fun _ => rfl⟩
        case round =>
          obtain ⟨j, xs, D, hj, rfl, hxs, hJs, hks, hblk, hDl, hDs⟩ := hrel
          clear hb hj1 hkp
          by_cases hlt : j < T0
          · obtain ⟨p, hp⟩ : ∃ p : Nat, p = T0 - j := ⟨_, rfl⟩
            have hpv : (T0 : Int) - (j : Int) = (p : Int) := by omega
            have hp1 : 1 ≤ p := by omega
            have hT := HT.out
            have hpm : p ≤ m := by omega
            have hpt : 0 < L.length → (p : Int) ≤ L.getD (L.length - 1) 0 := fun h => by have := HTP.out.2.1 h; omega
            have hvp := valid_snoc HV.out (p := p) (m := m) hp1 (by omega) hpt
            have hset : D.set L.length (p : Int) = pad (L ++ [(p : Int)]) := by rw [hDs, pad_snoc hlen2]
            have hblk2 := hblk.set L.length (.int .i64 (p : Int))
            rw [arr_set, hset] at hblk2
            have hJ2 := hJ.cell _ _ _ L.length (.int .i64 (p : Int)) _ _ hJs hB hblk
            have hks2 := hks.setNew (i := L.length) (v := .int .i64 (p : Int)) (Nat.le_refl W.heap.size)
            have hcz : wr.cell? ⟨W.heap.size, L.length, none⟩ = some ((arr D)[L.length]?.getD undef) := by
              rw [hblk.cell L.length]
              have : L.length < (arr D).size := by rw [arr_size, hDl]; omega
              simp [this]
            have hfz : wr.frozen? ⟨W.heap.size, L.length, none⟩ = false := hblk.free _
            have hi16 : (Tryd.prog.info? 68).map (·.size) = some (arr (pad (L ++ [(p : Int)]))).size := by rw [arr_size, pad_len (valid_bd hvp).2.2.2]; exact T_info35
            have hup := upQ_succ f m T0 j hlt
            have hpi : T0 - 1 - j = p - 1 := by omega
            have hpc : pieceQ f m (p - 1) = (allQ f (m - p) p).map fun R => ((p : Nat) : Int) :: R := by unfold pieceQ; rw [show p - 1 + 1 = p by omega]
            have hle := upQ_leJ f m T0 (j := j + 1) (k := T0) hlt
            rw [hup, List.length_append, hpi, hpc, List.length_map] at hle
            have hxl : xs.length = (upQ f m T0 j).length := by have := congrArg List.length hxs; simpa using this
            have hih := HIH.out (L ++ [(p : Int)]) (m - p) (n - 1) (pre ++ xs) _ (by omega) hvp (by rw [sumL_append]; simp only [sumL]; omega) hJ2 (by rw [topQ_snoc, List.length_append]; have := HN.out; omega) (by have := hks2.size; omega)
            rw [topQ_snoc, show (((L ++ [(p : Int)]).length : Nat) : Int) = (L.length : Int) + 1 by simp, show ((m - p : Nat) : Int) = (m : Int) - (p : Int) by omega] at hih
            have hw1 : IntKind.i64.wrap ((L.length : Int) + 1) = (L.length : Int) + 1 := IntWalk.i64_in _ (by omega)
            have hw2 : IntKind.i64.wrap ((m : Int) - (p : Int)) = (m : Int) - (p : Int) := IntWalk.i64_in _ (by omega)
            have hw3 : IntKind.i64.wrap ((p : Int) - 1) = (p : Int) - 1 := IntWalk.i64_in _ (by omega)
            have hge : decide ((1 : Int) ≤ (p : Int)) = true := decide_eq_true (by omega)
            have hl16 : (L.length : Int) < 16 := by omega
            have HXS := Lib.hid hxs
            have HUP := Lib.hid hup
            have HSET := Lib.hid hset
            have HPC := Lib.hid hpc
            have HPI := Lib.hid hpi
            clear hxs hup hle hxl hset hpc hpi hJs hDs hT hp
            rw [hpv]
            gi_wp2_with (first
              | (refine wpListIn_load_row rfl 68 (.tmp 4) rfl W.heap.size rfl 68 (arr (pad (L ++ [(p : Int)]))) (0, 0) _ hblk2 Tryd.underlying68 rfl hi16 ?_)
              | ((try refine ⟨hdd _, ?_⟩); gi_at_call 53; refine hih.mono ?_; clear hih; rintro e W2 (⟨rfl, ⟨ys, hys, hJ3⟩, hk3⟩ | ⟨rfl, ys, hys, hx3⟩)))
            · go_roundw
              case rel =>
                refine ⟨j + 1, xs ++ ys, pad (L ++ [(p : Int)]), by omega, by congr 1; omega, ?_, by rw [← List.append_assoc]; exact hJ3, hks2.trans hk3, hk3.same _ _ _ hblk2, pad_len (valid_bd hvp).2.2.2, fun q => by rw [← pad_snoc hlen2, List.set_set]⟩
                rw [List.map_append, HXS.out, hys, HUP.out, List.map_append, HPI.out, HPC.out, List.map_map]
                congr 1
                apply List.map_congr_left
                intro R _
                simp
              case measure => simp [intOf]; omega
            · go_ret
              refine .inr ⟨rfl, xs ++ ys, ?_, by rw [← List.append_assoc]; exact hx3⟩
              have h1 : (upQ f m T0 (j + 1)).map (L ++ ·) <+: (upQ f m T0 T0).map (L ++ ·) := (upQ_pre f m T0 hlt).map _
              refine List.IsPrefix.trans ?_ h1
              rw [List.map_append, HXS.out, HUP.out, List.map_append, HPI.out, HPC.out, List.map_map]
              have e : (allQ f (m - p) p).map ((fun x => L ++ x) ∘ fun R => ((p : Nat) : Int) :: R) = (allQ f (m - p) p).map (fun R => (L ++ [(p : Int)]) ++ R) := by
                apply List.map_congr_left
                intro R _
                simp
              rw [e]
              exact (List.prefix_append_right_inj _).2 hys
          · obtain rfl : j = T0 := by omega
            have hpv : (j : Int) - (j : Int) = 0 := by omega
            rw [hpv]
            gi_wp2
            go_ret
            exact .inl ⟨rfl, ⟨xs, hxs, hJs⟩, hks⟩
end Go.Proofs.YtmlomapifldlpaaDoor
namespace Go.Proofs.YtmlomapifldlpaaDoor
open Go.RowKit Go.Shelf NP
set_option maxRecDepth 8000
set_option linter.unusedVariables false
set_option linter.unusedSimpArgs false
attribute [local go_sem] Oper.semAt_some
theorem topQ_nil (n : Nat) : topQ [] n = n := rfl

set_option maxRecDepth 100000 in
set_option maxHeartbeats 2000000 in
theorem dwith_seq (F : Fence) (hd : F.depth = none) (hf : F.fn 53) (hf1 : F.fn 52) (hro : F.round = none) (n k Bn : Nat) (hk : k ≤ 16) (w : World) (hBn : Bn < w.heap.size) (hc : w.cell? ⟨Bn, 0, none⟩ = some (.int .i64 k)) :
    SeqT F n Tryd.prog 68 52 #[.pointer (some ⟨Bn, 0, none⟩)] (fun x : VL => #[.agg (arr (pad x.1))]) (fun xs => xs.map (·.1) = allQ k k k) (fun xs => xs.map (·.1) <+: allQ k k k) (allQ k k k).length w := by
  intro l J Jx W hW hJ hJx hY h0
  have hdd : ∀ k : Nat, (F.depth.isSome = true → 1 ≤ k) := fun k h => by rw [hd] at h; cases h
  have hcW : W.cell? ⟨Bn, 0, none⟩ = some (.int .i64 k) := (hW.cell (p := ⟨Bn, 0, none⟩) hBn).trans hc
  have hp := dfrom_in F hd hf hro l W.heap.size (allQ k k k).length J Jx hJ hJx (fun m pre x W1 hj hl => yieldAt_any hd m (hY pre x W1 hj hl)) k [] k (n - 1) [] W (Nat.le_refl _) rfl (by simp [sumL]; omega) h0 (by rw [topQ_nil]; simp) (Nat.le_refl _)
  rw [topQ_nil] at hp
  have hz : arr (pad []) = #[.int .i64 0, .int .i64 0, .int .i64 0, .int .i64 0, .int .i64 0, .int .i64 0, .int .i64 0, .int .i64 0, .int .i64 0, .int .i64 0, .int .i64 0, .int .i64 0, .int .i64 0, .int .i64 0, .int .i64 0, .int .i64 0] := rfl
  rw [hz] at hp
  simp only [List.length_nil] at hp
  refine callsIn_of_wp Tryd.func52 rfl hf1 ?_ hro
  simp only [Tryd.ntmps52, List.size_toArray, List.length_cons, List.length_nil, Nat.reduceAdd, Nat.reduceSub, Array.replicate_succ, Array.replicate_zero, List.push_toArray, List.append_toArray, List.nil_append, List.cons_append]
  gi_wp2_with ((try refine ⟨hdd _, ?_⟩); gi_at_call 53; refine hp.mono ?_; clear hp; rintro e W1 (⟨rfl, ⟨xs, hxs, hJ1⟩, _⟩ | ⟨rfl, xs, hxs, hx⟩))
  · go_end0
    exact ⟨⟨_, rfl⟩, .inl ⟨xs, by simpa using hxs, by simpa using hJ1⟩⟩
  · go_end0
    exact ⟨⟨_, rfl⟩, .inr ⟨xs, by simpa using hxs, by simpa using hx⟩⟩

theorem dwith_in (F : Fence) (n : Nat) (hf : F.fn 51) (hro : F.round = none) (k : Int) (w : World) :
    CallsIn F n Tryd.prog 51 #[.int .i64 k] w fun e w' => e = .returned (.func (.func 52) #[] #[.pointer (some ⟨w.heap.size, 0, none⟩)]) ∧ w' = w.alloc (.cells #[.int .i64 k] 3) := by
  refine callsIn_of_wp Tryd.func51 rfl hf ?_ hro
  simp only [Tryd.ntmps51, List.size_toArray, List.length_cons, List.length_nil, Nat.reduceAdd, Nat.reduceSub, Array.replicate_succ, Array.replicate_zero, List.push_toArray, List.append_toArray, List.nil_append, List.cons_append]
  gi_wp2
  go_ret
  exact ⟨rfl, rfl⟩
end Go.Proofs.YtmlomapifldlpaaDoor
namespace Go.Proofs.YtmlomapifldlpaaDoor
open Go.RowKit
set_option maxRecDepth 8000

/-- a value reads as a list of numbers -/
def Inn (w : World) (B : Nat) (v : Value) (L : List Int) : Prop := ∃ a c, v = .slice a L.length c ∧ Rd w B a (ints L) ∧ L.length ≤ c
def RdLL (w : World) (B : Nat) (a : Option Addr) (LL : List (List Int)) : Prop :=
  ∃ vs, Rd w B a vs ∧ vs.length = LL.length ∧ ∀ (k : Nat) v L, vs[k]? = some v → LL[k]? = some L → Inn w B v L

theorem Inn.below {w w' : World} {B : Nat} {v : Value} {L : List Int} (h : Inn w B v L) (hb : Below B w w') : Inn w' B v L := by
  obtain ⟨a, c, rfl, h1, h2⟩ := h
  exact ⟨a, c, rfl, h1.below hb, h2⟩
theorem Inn.more {w : World} {B B' : Nat} {v : Value} {L : List Int} (h : Inn w B v L) (hB : B ≤ B') : Inn w B' v L := by
  obtain ⟨a, c, rfl, h1, h2⟩ := h
  exact ⟨a, c, rfl, h1.more hB, h2⟩
theorem RdLL.below {w w' : World} {B : Nat} {a : Option Addr} {LL : List (List Int)} (h : RdLL w B a LL) (hb : Below B w w') : RdLL w' B a LL := by
  obtain ⟨vs, h1, h2, h3⟩ := h
  exact ⟨vs, h1.below hb, h2, fun k v L hv hL => (h3 k v L hv hL).below hb⟩
theorem RdLL.more {w : World} {B B' : Nat} {a : Option Addr} {LL : List (List Int)} (h : RdLL w B a LL) (hB : B ≤ B') : RdLL w B' a LL := by
  obtain ⟨vs, h1, h2, h3⟩ := h
  exact ⟨vs, h1.more hB, h2, fun k v L hv hL => (h3 k v L hv hL).more hB⟩
theorem RdLL.dr {w w' : World} {B : Nat} {a : Option Addr} {LL : List (List Int)} (h : RdLL w B a LL) (hb : Dr w w') : RdLL w' B a LL := h.below (hb.below B)
/-- the k-th list -/
theorem RdLL.at_ {w : World} {B : Nat} {a : Option Addr} {LL : List (List Int)} (h : RdLL w B a LL) {k : Nat} (hk : k < LL.length) :
    ∃ b o a' c', a = some ⟨b, o, none⟩ ∧ b < B ∧ w.cell? ⟨b, o + k, none⟩ = some (.slice a' LL[k].length c') ∧ Rd w B a' (ints LL[k]) ∧ LL[k].length ≤ c' := by
  obtain ⟨vs, h1, h2, h3⟩ := h
  have hkv : k < vs.length := by omega
  obtain ⟨b, o, rfl, hb, hc⟩ := h1 (by intro e; subst e; simp at hkv)
  obtain ⟨a', c', e, hr, hl⟩ := h3 k vs[k] LL[k] (List.getElem?_eq_getElem hkv) (List.getElem?_eq_getElem hk)
  exact ⟨b, o, a', c', rfl, hb, by rw [hc k vs[k] (List.getElem?_eq_getElem hkv), e], hr, hl⟩

/-- the outer block and each list's block are the call's own, and no two are one -/
structure OwnLL (w : World) (lo hi : Nat) (eo e : TypeId) (v : Value) (vs : List Value) (LL : List (List Int)) : Prop where
  outer : Own w lo hi eo v vs
  len : vs.length = LL.length
  inner : ∀ (k : Nat) u L, vs[k]? = some u → LL[k]? = some L → Own w lo hi e u (ints L)
  apartO : ∀ (k : Nat) u g, vs[k]? = some u → u.ownBlock = some g → v.ownBlock ≠ some g
  apart : ∀ (j k : Nat) u u' g, vs[j]? = some u → vs[k]? = some u' → u.ownBlock = some g → u'.ownBlock = some g → j = k

theorem OwnLL.below {w w' : World} {lo hi : Nat} {eo e : TypeId} {v : Value} {vs : List Value} {LL : List (List Int)} (h : OwnLL w lo hi eo e v vs LL) (hb : Below hi w w') : OwnLL w' lo hi eo e v vs LL :=
  ⟨h.outer.below hb, h.len, fun k u L hu hL => (h.inner k u L hu hL).below hb, h.apartO, h.apart⟩
theorem OwnLL.lower {w : World} {lo lo' hi : Nat} {eo e : TypeId} {v : Value} {vs : List Value} {LL : List (List Int)} (h : OwnLL w lo hi eo e v vs LL) (hl : lo' ≤ lo) : OwnLL w lo' hi eo e v vs LL :=
  ⟨h.outer.lower hl, h.len, fun k u L hu hL => (h.inner k u L hu hL).lower hl, h.apartO, h.apart⟩
theorem OwnLL.more {w : World} {lo hi : Nat} {eo e : TypeId} {v : Value} {vs : List Value} {LL : List (List Int)} (h : OwnLL w lo hi eo e v vs LL) : OwnLL w lo w.heap.size eo e v vs LL :=
  ⟨h.outer.more, h.len, fun k u L hu hL => (h.inner k u L hu hL).more, h.apartO, h.apart⟩
theorem OwnLL.le {w : World} {lo hi : Nat} {eo e : TypeId} {v : Value} {vs : List Value} {LL : List (List Int)} (h : OwnLL w lo hi eo e v vs LL) : hi ≤ w.heap.size := h.outer.le
theorem OwnLL.form {w : World} {lo hi : Nat} {eo e : TypeId} {v : Value} {vs : List Value} {LL : List (List Int)} (h : OwnLL w lo hi eo e v vs LL) : ∃ a c, v = .slice a LL.length c := by
  obtain ⟨a, c, hv⟩ := h.outer.form
  exact ⟨a, c, by rw [← h.len]; exact hv⟩
theorem OwnLL.empty (w : World) (eo e : TypeId) : OwnLL (w.alloc (.cells #[] eo)) w.heap.size (w.heap.size + 1) eo e (.slice (some ⟨w.heap.size, 0, none⟩) 0 0) [] [] :=
  ⟨Own.empty w eo, rfl, fun k u L hu => by simp at hu, fun k u g hu => by simp at hu, fun j k u u' g hu => by simp at hu⟩
theorem OwnLL.nil (w : World) (lo : Nat) (eo e : TypeId) : OwnLL w lo w.heap.size eo e (.slice none 0 0) [] [] :=
  ⟨Own.nil w lo eo, rfl, fun k u L hu => by simp at hu, fun k u g hu => by simp at hu, fun j k u u' g hu => by simp at hu⟩
theorem OwnLL.rd {w : World} {lo hi : Nat} {eo e : TypeId} {a : Option Addr} {n c : Nat} {vs : List Value} {LL : List (List Int)} (h : OwnLL w lo hi eo e (.slice a n c) vs LL) : RdLL w hi a LL := by
  refine ⟨vs, h.outer.rd, h.len, fun k u L hu hL => ?_⟩
  have hi' := h.inner k u L hu hL
  obtain ⟨a', c', rfl⟩ := hi'.form
  refine ⟨a', c', by rw [List.length_map], hi'.rd, ?_⟩
  rcases Nat.eq_zero_or_pos L.length with h0 | h0
  · omega
  · obtain ⟨g, c2, e2, hc⟩ := hi'.formN (by simpa using h0)
    injection e2 with _ _ e3
    rw [List.length_map] at hc
    omega
/-- one list more, its block beyond all that there was: the outer list anew or in its place -/
theorem OwnLL.push {w w' : World} {lo hi hi' : Nat} {eo e : TypeId} {v v' u : Value} {vs : List Value} {LL : List (List Int)} {L : List Int} (h : OwnLL w lo hi eo e v vs LL)
    (ho : Own w' lo hi' eo v' (vs ++ [u])) (hin : ∀ (k : Nat) u L, vs[k]? = some u → LL[k]? = some L → Own w' lo hi' e u (ints L)) (hu : Own w' lo hi' e u (ints L))
    (h1 : ∀ g, u.ownBlock = some g → v'.ownBlock ≠ some g) (h2 : ∀ (k : Nat) x g, vs[k]? = some x → x.ownBlock = some g → v'.ownBlock ≠ some g ∧ u.ownBlock ≠ some g) : OwnLL w' lo hi' eo e v' (vs ++ [u]) (LL ++ [L]) := by
  have hl := h.len
  refine ⟨ho, by simp [hl], fun k x M hx hM => ?_, fun k x g hx hg => ?_, fun j k x y g hx hy hgx hgy => ?_⟩
  · by_cases hk : k < vs.length
    · rw [List.getElem?_append_left hk] at hx
      rw [List.getElem?_append_left (by omega)] at hM
      exact hin k x M hx hM
    · rw [List.getElem?_append_right (by omega)] at hx
      rw [List.getElem?_append_right (by omega)] at hM
      have e0 : k - vs.length = 0 := by
        rcases Nat.eq_zero_or_pos (k - vs.length) with z | z
        · exact z
        · rw [List.getElem?_eq_none (by simp only [List.length_singleton]; omega)] at hx; cases hx
      rw [e0] at hx
      rw [← hl, e0] at hM
      cases hx; cases hM
      exact hu
  · by_cases hk : k < vs.length
    · rw [List.getElem?_append_left hk] at hx
      exact (h2 k x g hx hg).1
    · rw [List.getElem?_append_right (by omega)] at hx
      have e0 : k - vs.length = 0 := by
        rcases Nat.eq_zero_or_pos (k - vs.length) with z | z
        · exact z
        · rw [List.getElem?_eq_none (by simp only [List.length_singleton]; omega)] at hx; cases hx
      rw [e0] at hx
      cases hx
      exact h1 g hg
  · have last : ∀ i, ¬ i < vs.length → ∀ z, (vs ++ [u])[i]? = some z → i = vs.length ∧ z = u := fun i hi z hz => by
      rw [List.getElem?_append_right (by omega)] at hz
      have e0 : i - vs.length = 0 := by
        rcases Nat.eq_zero_or_pos (i - vs.length) with q | q
        · exact q
        · rw [List.getElem?_eq_none (by simp only [List.length_singleton]; omega)] at hz; cases hz
      rw [e0] at hz
      cases hz
      exact ⟨by omega, rfl⟩
    by_cases hj : j < vs.length
    · rw [List.getElem?_append_left hj] at hx
      by_cases hk : k < vs.length
      · rw [List.getElem?_append_left hk] at hy
        exact h.apart j k x y g hx hy hgx hgy
      · obtain ⟨_, rfl⟩ := last k hk y hy
        exact absurd hgy (h2 j x g hx hgx).2
    · obtain ⟨hj2, rfl⟩ := last j hj x hx
      by_cases hk : k < vs.length
      · rw [List.getElem?_append_left hk] at hy
        exact absurd hgx (h2 k y g hy hgy).2
      · obtain ⟨hk2, _⟩ := last k hk y hy
        omega
/-- one list more by append: its block was made behind the outer list's -/
theorem OwnLL.append {w w' : World} {lo hi lou hiu : Nat} {eo e : TypeId} {v v' u : Value} {vs : List Value} {LL : List (List Int)} {L : List Int} (h : OwnLL w lo hi eo e v vs LL)
    (hu : Own w lou hiu e u (ints L)) (hlou : hi ≤ lou) (hlo : lo ≤ lou) (ho : Own w' lo w'.heap.size eo v' (vs ++ [u])) (hg : w.grownBy w' v.ownBlock) (hat : v'.ownBlock = v.ownBlock ∨ v'.ownBlock = some w.heap.size) :
    OwnLL w' lo w'.heap.size eo e v' (vs ++ [u]) (LL ++ [L]) := by
  have hL : ∀ (k : Nat) x g, vs[k]? = some x → x.ownBlock = some g → g < hi := fun k x g hx hgx => by
    have hkv := (List.getElem?_eq_some_iff.1 hx).1
    have hkl : k < LL.length := by rw [← h.len]; exact hkv
    exact (h.inner k x LL[k] hx (List.getElem?_eq_getElem hkl)).lt g hgx
  refine h.push ho (fun k x M hx hM => ?_) ?_ (fun g hgu hv => ?_) (fun k x g hx hgx => ⟨fun hv => ?_, fun hgu => ?_⟩)
  · have hk := h.inner k x M hx hM
    refine (hk.grown hg ?_).more
    cases hb : x.ownBlock with
    | none => exact .inl rfl
    | some g => exact .inr fun e => h.apartO k x g hx hb e.symm
  · refine ((hu.grown hg ?_).more).lower hlo
    cases hb : u.ownBlock with
    | none => exact .inl rfl
    | some g => exact .inr fun e => by have h1 := hu.base g hb; have h2 := h.outer.lt g e.symm; omega
  · have h1 := hu.base g hgu
    rcases hat with e | e
    · have h2 := h.outer.lt g (e ▸ hv); omega
    · rw [e] at hv; cases hv; have h2 := hu.lt _ hgu; have h3 := hu.le; omega
  · rcases hat with e | e
    · exact h.apartO k x g hx hgx (e ▸ hv)
    · rw [e] at hv; cases hv; have h2 := hL k x _ hx hgx; have h3 := h.le; omega
  · have h1 := hu.base g hgu; have h2 := hL k x g hx hgx; omega
/-- the k-th list, its block and its place -/
theorem OwnLL.at_ {w : World} {lo hi : Nat} {eo e : TypeId} {a : Option Addr} {n c : Nat} {vs : List Value} {LL : List (List Int)} (h : OwnLL w lo hi eo e (.slice a n c) vs LL) {k : Nat} (hk : k < LL.length) :
    ∃ g a' c', a = some ⟨g, 0, none⟩ ∧ lo ≤ g ∧ g < hi ∧ w.cell? ⟨g, k, none⟩ = some (.slice a' LL[k].length c') ∧ Own w lo hi e (.slice a' LL[k].length c') (ints LL[k]) ∧ vs[k]? = some (.slice a' LL[k].length c') := by
  have hkv : k < vs.length := by rw [h.len]; exact hk
  obtain ⟨g, c1, e1, h1, h2, h3, _⟩ := h.outer.at_ hkv
  injection e1 with e1 _ _
  have hi' := h.inner k vs[k] LL[k] (List.getElem?_eq_getElem hkv) (List.getElem?_eq_getElem hk)
  obtain ⟨a', c', e2⟩ := hi'.form
  rw [List.length_map] at e2
  exact ⟨g, a', c', e1, h1, h2, by rw [h3, e2], e2 ▸ hi', by rw [List.getElem?_eq_getElem hkv, e2]⟩
/-- one list written anew in its place -/
theorem OwnLL.setIn {w w' : World} {lo hi : Nat} {eo e : TypeId} {v u : Value} {vs : List Value} {LL : List (List Int)} {L : List Int} (h : OwnLL w lo hi eo e v vs LL) {k : Nat} (hk : vs[k]? = some u)
    (hg : w.grownBy w' u.ownBlock) (hu : Own w' lo hi e u (ints L)) : OwnLL w' lo hi eo e v vs (LL.set k L) := by
  have hv : v.ownBlock = none ∨ v.ownBlock ≠ u.ownBlock := by
    cases hb : v.ownBlock with
    | none => exact .inl rfl
    | some g => exact .inr fun e => h.apartO k u g hk e.symm hb
  refine ⟨h.outer.grown hg hv, by rw [List.length_set]; exact h.len, fun j x M hx hM => ?_, h.apartO, h.apart⟩
  rw [List.getElem?_set] at hM
  by_cases hj : k = j
  · subst hj
    rw [if_pos rfl] at hM
    split at hM
    · cases hM
      obtain rfl : x = u := by rw [hk] at hx; cases hx; rfl
      exact hu
    · cases hM
  · rw [if_neg hj] at hM
    refine (h.inner j x M hx hM).grown hg ?_
    cases hb : x.ownBlock with
    | none => exact .inl rfl
    | some g => exact .inr fun e => hj (h.apart k j u x g hk hx e.symm hb)
/-- the marks of lists, one behind another -/
def marksLL (m : Int) : List (List Int) → List (List Int)
  | [] => []
  | L :: R => ((List.range L.length).map fun (j : Nat) => m + (j : Int)) :: marksLL (m + (L.length : Int)) R
def cntLL (LL : List (List Int)) : Nat := (LL.map List.length).sum
theorem cntLL_append (A : List (List Int)) (L : List Int) : cntLL (A ++ [L]) = cntLL A + L.length := by simp [cntLL]
theorem marksLL_append (m : Int) (A : List (List Int)) (L : List Int) : marksLL m (A ++ [L]) = marksLL m A ++ [(List.range L.length).map fun (j : Nat) => (m + (cntLL A : Int)) + (j : Int)] := by
  induction A generalizing m with
  | nil => simp [marksLL, cntLL]
  | cons x R ih =>
    have e : m + (x.length : Int) + (cntLL R : Int) = m + (cntLL (x :: R) : Int) := by simp [cntLL]; omega
    show _ :: marksLL (m + (x.length : Int)) (R ++ [L]) = _
    rw [ih, e]
    rfl
theorem marksLL_len (m : Int) (A : List (List Int)) : (marksLL m A).length = A.length := by
  induction A generalizing m with
  | nil => rfl
  | cons x R ih => simp [marksLL, ih]
theorem cntLL_take (LL : List (List Int)) (k : Nat) : cntLL (LL.take k) ≤ cntLL LL := by
  induction LL generalizing k with
  | nil => simp [cntLL]
  | cons x R ih =>
    cases k with
    | zero => simp [cntLL]
    | succ k => have := ih k; simp [cntLL] at this ⊢; omega
/-- one list more is marked -/
theorem marksLL_set (m : Int) {LL : List (List Int)} {k : Nat} (hk : k < LL.length) :
    (marksLL m (LL.take k) ++ LL.drop k).set k ((List.range LL[k].length).map fun (j : Nat) => (m + (cntLL (LL.take k) : Int)) + (j : Int)) = marksLL m (LL.take (k + 1)) ++ LL.drop (k + 1) := by
  have e1 : (marksLL m (LL.take k)).length = k := by rw [marksLL_len, List.length_take]; omega
  rw [List.drop_eq_getElem_cons hk, List.set_append_right _ _ (by omega), e1, Nat.sub_self, List.set_cons_zero, List.take_succ_eq_append_getElem hk, marksLL_append]
  simp
theorem marksLL_get (m : Int) (LL : List (List Int)) (k : Nat) (hk : k < LL.length) (hh : k < (marksLL m LL).length) :
    (marksLL m LL)[k] = (List.range LL[k].length).map fun (j : Nat) => (m + (cntLL (LL.take k) : Int)) + (j : Int) := by
  induction LL generalizing m k with
  | nil => simp at hk
  | cons x R ih =>
    cases k with
    | zero => simp [marksLL, cntLL]
    | succ k =>
      have h2 : k < (marksLL (m + (x.length : Int)) R).length := by rw [marksLL_len]; simpa using hk
      have := ih (m + (x.length : Int)) k (by simpa using hk) h2
      have e : m + (x.length : Int) + (cntLL (R.take k) : Int) = m + (cntLL ((x :: R).take (k + 1)) : Int) := by simp [cntLL]; omega
      rw [e] at this
      exact this
theorem OwnLL.lt {w : World} {lo hi : Nat} {eo e : TypeId} {v : Value} {vs : List Value} {LL : List (List Int)} (h : OwnLL w lo hi eo e v vs LL) {k : Nat} {x : Value} {g : Nat} (hx : vs[k]? = some x) (hg : x.ownBlock = some g) : lo ≤ g ∧ g < hi := by
  have hkv := (List.getElem?_eq_some_iff.1 hx).1
  have hkl : k < LL.length := by rw [← h.len]; exact hkv
  have hi' := h.inner k x LL[k] hx (List.getElem?_eq_getElem hkl)
  exact ⟨hi'.base g hg, hi'.lt g hg⟩
/-- many lists more by append: theirs were made behind the outer list's -/
theorem OwnLL.appendAll {w w' : World} {lo hi lox hix : Nat} {eo e : TypeId} {v v' vx : Value} {vs vsx : List Value} {LL LLx : List (List Int)} (h : OwnLL w lo hi eo e v vs LL)
    (hx : OwnLL w lox hix eo e vx vsx LLx) (hd : hi ≤ lox) (hlo : lo ≤ lox) (ho : Own w' lo w'.heap.size eo v' (vs ++ vsx)) (hg : w.grownBy w' v.ownBlock) (hat : v'.ownBlock = v.ownBlock ∨ v'.ownBlock = some w.heap.size) :
    OwnLL w' lo w'.heap.size eo e v' (vs ++ vsx) (LL ++ LLx) := by
  have hl := h.len
  have L1 : ∀ {k : Nat} {x : Value} {g : Nat}, vs[k]? = some x → x.ownBlock = some g → lo ≤ g ∧ g < hi := fun a b => h.lt a b
  have L2 : ∀ {k : Nat} {x : Value} {g : Nat}, vsx[k]? = some x → x.ownBlock = some g → lox ≤ g ∧ g < hix := fun a b => hx.lt a b
  have hle := h.le
  have hlx := hx.le
  refine ⟨ho, by simp [hl, hx.len], fun k x M hk hM => ?_, fun k x g hk hgx hv => ?_, fun j k x y g hj hk hgx hgy => ?_⟩
  · by_cases hkv : k < vs.length
    · rw [List.getElem?_append_left hkv] at hk
      rw [List.getElem?_append_left (by omega)] at hM
      refine ((h.inner k x M hk hM).grown hg ?_).more
      cases hb : x.ownBlock with
      | none => exact .inl rfl
      | some g => exact .inr fun e => h.apartO k x g hk hb e.symm
    · rw [List.getElem?_append_right (by omega)] at hk
      rw [List.getElem?_append_right (by omega), ← hl] at hM
      refine (((hx.inner _ x M hk hM).grown hg ?_).more).lower hlo
      cases hb : x.ownBlock with
      | none => exact .inl rfl
      | some g => exact .inr fun e => by have h1 := L2 hk hb; have h2 := h.outer.lt g e.symm; omega
  · by_cases hkv : k < vs.length
    · rw [List.getElem?_append_left hkv] at hk
      rcases hat with e | e
      · exact h.apartO k x g hk hgx (e ▸ hv)
      · rw [e] at hv; cases hv; have h2 := L1 hk hgx; omega
    · rw [List.getElem?_append_right (by omega)] at hk
      have h2 := L2 hk hgx
      rcases hat with e | e
      · have h1 := h.outer.lt g (e ▸ hv); omega
      · rw [e] at hv; cases hv; omega
  · by_cases hjv : j < vs.length
    · rw [List.getElem?_append_left hjv] at hj
      by_cases hkv : k < vs.length
      · rw [List.getElem?_append_left hkv] at hk
        exact h.apart j k x y g hj hk hgx hgy
      · rw [List.getElem?_append_right (by omega)] at hk
        have h1 := L1 hj hgx; have h2 := L2 hk hgy; omega
    · rw [List.getElem?_append_right (by omega)] at hj
      by_cases hkv : k < vs.length
      · rw [List.getElem?_append_left hkv] at hk
        have h1 := L2 hj hgx; have h2 := L1 hk hgy; omega
      · rw [List.getElem?_append_right (by omega)] at hk
        have := hx.apart _ _ x y g hj hk hgx hgy
        omega
theorem Own.single (w : World) (u : Value) (e : TypeId) : Own (w.alloc (.cells #[u] e)) w.heap.size (w.heap.size + 1) e (.slice (some ⟨w.heap.size, 0, none⟩) 1 1) [u] :=
  ⟨⟨rfl, .inr ⟨w.heap.size, 1, #[u], rfl, Nat.le_refl _, heap_alloc_new w _, Nat.le_refl _, by decide, rfl, rfl⟩⟩, fun g hg => by simp [Value.ownBlock] at hg; omega, by simp⟩
/-- a list of one list -/
theorem OwnLL.single {w : World} {lo hi : Nat} {eo e : TypeId} {u : Value} {L : List Int} (hu : Own w lo hi e u (ints L)) (hlo : lo ≤ w.heap.size) :
    OwnLL (w.alloc (.cells #[u] eo)) lo (w.heap.size + 1) eo e (.slice (some ⟨w.heap.size, 0, none⟩) 1 1) [u] [L] := by
  have hle := hu.le
  have one : ∀ (k : Nat) x, [u][k]? = some x → k = 0 ∧ x = u := fun k x hx => by
    match k, hx with
    | 0, hx => simp at hx; exact ⟨rfl, hx.symm⟩
  refine ⟨(Own.single w u eo).lower hlo, rfl, fun k x M hx hM => ?_, fun k x g hx hg hv => ?_, fun j k x y g hx hy _ _ => ?_⟩
  · obtain ⟨rfl, rfl⟩ := one k x hx
    simp at hM
    subst hM
    have h := hu.alloc (.cells #[x] eo)
    exact ⟨h.row, fun g hg => by have := h.lt g hg; omega, by simp⟩
  · obtain ⟨rfl, rfl⟩ := one k x hx
    have := hu.lt g hg
    simp [Value.ownBlock] at hv
    omega
  · rw [(one j x hx).1, (one k y hy).1]
end Go.Proofs.YtmlomapifldlpaaDoor
namespace Go.Proofs.YtmlomapifldlpaaDoor
open Go.RowKit Go.Shelf NP
set_option maxRecDepth 8000
set_option linter.unusedVariables false
set_option linter.unusedSimpArgs false
attribute [local go_sem] Oper.semAt_some
section
variable {w w' : World} {lo hi : Nat} {eo e : TypeId} {v : Value} {vs : List Value}
theorem Own.stay (h : Own w lo hi e v vs) (hs : w.heap.size ≤ w'.heap.size) (hk : ∀ (g : Nat) (cs : Array Value), w.heap[g]? = some (.cells cs e (0, 0)) → w'.heap[g]? = w.heap[g]?) : Own w' lo hi e v vs :=
  h.keep hs fun g hg => by
    rcases h.row.2 with ⟨h1, _⟩ | ⟨g', cap, cur, h1, _, hb, _⟩
    · rw [h1] at hg; simp [Value.ownBlock] at hg
    · rw [h1] at hg
      simp [Value.ownBlock] at hg
      subst hg
      exact hk _ _ hb
theorem OwnLL.stay {LL : List (List Int)} (h : OwnLL w lo hi eo e v vs LL) (hs : w.heap.size ≤ w'.heap.size) (hk : ∀ (g : Nat) (cs : Array Value), w.heap[g]? = some (.cells cs eo (0, 0)) → w'.heap[g]? = w.heap[g]?) (hk2 : ∀ (g : Nat) (cs : Array Value), w.heap[g]? = some (.cells cs e (0, 0)) → w'.heap[g]? = w.heap[g]?) : OwnLL w' lo hi eo e v vs LL :=
  ⟨h.outer.stay hs hk, h.len, fun k u L hu hL => (h.inner k u L hu hL).stay hs hk2, h.apartO, h.apart⟩
end
theorem opIn_val {F : Fence} {n : Nat} {P : Program} {o : Oper} {a : Act} {w w' : World} {K : Act → World → Prop} {Q : Exit → Act → World → Prop} {v : Value} (hab : o.about P w a.eval = none)
    (h : (o.semAt F.round a.eval).run P w = .ok (.value v) w') (hK : K (a.put o.dst v) w') : o.wpIn F n P a w K Q :=
  ⟨fun f hf => (by rw [hab] at hf; cases hf), (by rw [h]; exact hK)⟩
theorem opIn_loadv {F : Fence} {n : Nat} {P : Program} {o : Oper} {a : Act} {w w' : World} {K : Act → World → Prop} {Q : Exit → Act → World → Prop} {v : Value} (ty : TypeId) (x : Operand) (ho : o.op = .load ty x) (p : Addr) (hx : a.eval x = .pointer (some p))
    (hrun : (loadVar ty p).run P w = .ok v w') (hK : K (a.put o.dst v) w') : o.wpIn F n P a w K Q :=
  opIn_val (by simp [Oper.about, ho]) (by
    rw [Oper.semAt_plain F _ _ (by rw [ho]; intro c hc; cases hc)]
    simp only [execOp, ho, hx, Instr.loadAt, Instr.sureAddr, Sem.run_bind, Sem.run_pure, Result.andThen_ok, hrun]) hK
def IW (w : World) (H : VL → Bool) (fv : Value) (pre : List VL) (W : World) : Prop :=
  (∃ v vs, Blk W (w.heap.size + 1) 42 #[v] ∧ OwnLL W (w.heap.size + 2) W.heap.size 46 3 v vs ((pre.filter H).map (·.1))) ∧ Blk W w.heap.size 37 #[fv] ∧ Below w.heap.size w W
theorem iw_from (w : World) (H : VL → Bool) (fv : Value) (B : Nat) (hB : w.heap.size ≤ B) : OwnFrom B (IW w H fv) := by
  rintro s W W' row ⟨⟨v, vs, h1, h2⟩, h3, h4⟩ hg hr
  have ne : ∀ (g : Nat) (cs : Array Value) (t : TypeId), W.heap[g]? = some (.cells cs t (0, 0)) → some g ≠ row := fun g cs t hc e => by
    obtain ⟨_, o, ho, hc'⟩ := hr g e.symm
    rw [hc] at ho; injection ho with ho; subst ho; simp [Obj.isCells] at hc'
  have kp : ∀ (g : Nat) (cs : Array Value) (t : TypeId), W.heap[g]? = some (.cells cs t (0, 0)) → W'.heap[g]? = W.heap[g]? := fun g cs t hc => hg.block g (Array.getElem?_eq_some_iff.1 hc).1 (ne g cs t hc)
  exact ⟨⟨v, vs, h1.grown hg (ne _ _ _ h1), (h2.stay hg.size (fun g cs hc => kp g cs _ hc) (fun g cs hc => kp g cs _ hc)).more⟩, h3.grown hg (ne _ _ _ h3), h4.grown hg h4.size (fun k e => Nat.le_trans hB (hr k e).1)⟩
theorem iw_abt (w : World) (H : VL → Bool) (fv : Value) (B : Nat) (hB : w.heap.size ≤ B) : AbT B 68 (IW w H fv) := by
  refine ⟨?_, ?_, ?_⟩
  · rintro s W o ⟨⟨v, vs, h1, h2⟩, h3, h4⟩
    have kp : ∀ (g : Nat) (cs : Array Value) (t : TypeId), W.heap[g]? = some (.cells cs t (0, 0)) → (W.alloc o).heap[g]? = W.heap[g]? := fun g cs t hc => Below.heap_alloc W o g (Array.getElem?_eq_some_iff.1 hc).1
    exact ⟨⟨v, vs, h1.alloc o, (h2.stay (by simp) (fun g cs hc => kp g cs _ hc) (fun g cs hc => kp g cs _ hc)).more⟩, h3.alloc o, h4.alloc h4.size o⟩
  · rintro s W n ⟨⟨v, vs, h1, h2⟩, h3, h4⟩
    exact ⟨⟨v, vs, h1, (h2.stay (w' := W.drewN n) (Nat.le_refl _) (fun g cs hc => rfl) (fun g cs hc => rfl)).more⟩, h3, h4.trans ((Dr.n W n).below _)⟩
  · rintro s W b i u cs fr ⟨⟨v, vs, h1, h2⟩, h3, h4⟩ hb hc
    have ne : ∀ (g : Nat) (cs' : Array Value) (t : TypeId), t ≠ 68 → W.heap[g]? = some (.cells cs' t (0, 0)) → g ≠ b := fun g cs' t ht hg e => by
      subst e; rw [hc] at hg; injection hg with hg; injection hg with _ hg _; exact ht hg.symm
    have kp : ∀ (g : Nat) (cs' : Array Value) (t : TypeId), t ≠ 68 → W.heap[g]? = some (.cells cs' t (0, 0)) → (W.setCell ⟨b, i, none⟩ u).heap[g]? = W.heap[g]? := fun g cs' t ht hg => Below.heap_setCell W ⟨b, i, none⟩ u g (ne g cs' t ht hg)
    exact ⟨⟨v, vs, h1.off (ne _ _ _ (by decide) h1) _, (h2.stay (by simp [World.setCell]) (fun g cs hc => kp g cs _ (by decide) hc) (fun g cs hc => kp g cs _ (by decide) hc)).more⟩, h3.off (ne _ _ _ (by decide) h3) _, h4.setCell (p := ⟨b, i, none⟩) (Nat.le_trans hB hb) u⟩

theorem iw_below {w : World} {H : VL → Bool} {fv : Value} {pre : List VL} {W W' : World} (h : IW w H fv pre W) (hb : Below W.heap.size W W') : IW w H fv pre W' := by
  obtain ⟨⟨v, vs, h1, h2⟩, h3, h4⟩ := h
  exact ⟨⟨v, vs, h1.below hb h1.lt, (h2.below hb).more⟩, h3.below hb h3.lt, h4.trans (hb.mono h4.size)⟩
theorem ko_below {W W' : World} (hb : Below W.heap.size W W') : KeepsOthers W W' := ⟨hb.size, fun j o hj _ => (hb.block j (Array.getElem?_eq_some_iff.1 hj).1).trans hj⟩
theorem T_ints2 : (Tryd.prog.info? 46).map (fun i => (i.zero, i.size, i.bytes)) = some (some (.slice none 0 0), 1, 24) := by kernel_rfl
theorem opIn_append {F : Fence} {n : Nat} {P : Program} {o : Oper} {a : Act} {w w' : World} {K : Act → World → Prop} {Q : Exit → Act → World → Prop} {v v' : Value} {A : Option Addr} {m c : Nat} (s x : Operand) (t : TypeId)
    (ho : o.op = .call { callee := .builtin .append, args := #[s, x], argTypes := #[t, t] }) (hs : a.eval s = v) (hx : a.eval x = .slice A m c)
    (hrun : (Builtin.append_ #[t, t] o.type #[v, .slice A m c]).run P w = .ok v' w') (hK : K (a.put o.dst v') w') : o.wpIn F n P a w K Q :=
  opIn_val (by simp [Oper.about, ho, resolve, Target.leads, Sem.run_pure]) (by
    rw [Oper.semAt_plain F _ _ (by rw [ho]; intro c hc; cases hc)]
    simp [execOp, ho, resolve, invoke, builtin, hs, hx, hrun, Result.andThen]) hK
theorem opIn_store {F : Fence} {n : Nat} {P : Program} {o : Oper} {a : Act} {w w' : World} {K : Act → World → Prop} {Q : Exit → Act → World → Prop} (ty : TypeId) (x y : Operand)
    (ho : o.op = .store ty x y) (p : Addr) (hx : a.eval x = .pointer (some p)) (hrun : (storeVar ty p (a.eval y)).run P w = .ok () w') (hK : K (a.put o.dst undef) w') : o.wpIn F n P a w K Q :=
  ⟨fun f hf => (by simp [Oper.about, ho] at hf), (by
    rw [Oper.semAt_plain F _ _ (by rw [ho]; intro c hc; cases hc)]
    simp only [execOp, ho, hx, Instr.storeAt, Instr.sureAddr, Sem.run_bind, Sem.run_pure, Result.andThen_ok, hrun]
    exact hK)⟩
theorem allQ_few : (List.range 17).all (fun k => decide ((allQ k k k).length ≤ 1000)) = true := by decide +kernel
theorem allQ_len {k : Nat} (hk : k ≤ 16) : (allQ k k k).length ≤ 1000 := by
  have := List.all_eq_true.1 allQ_few k (by simp; omega)
  simpa using this
theorem round_end {w W W3 W4 : World} {H : VL → Bool} {fv : Value} {pre : List VL} {x : VL} {v v' : Value} {vs : List Value} {u : Option Addr} {lu hiu : Nat}
    (hLL : OwnLL W (w.heap.size + 2) W.heap.size 46 3 v vs ((pre.filter H).map (·.1))) (hb5 : Blk W (w.heap.size + 1) 42 #[v]) (hb3 : Blk W w.heap.size 37 #[fv]) (hB : Below w.heap.size w W) (hH : H x = true)
    (hB3 : Below W.heap.size W W3) (hu : Own W3 lu hiu 3 (.slice u x.1.length x.1.length) (ints x.1)) (hlu : W.heap.size ≤ lu) (ho4 : Own W4 (w.heap.size + 2) W4.heap.size 46 v' (vs ++ [.slice u x.1.length x.1.length]))
    (hg4 : W3.grownBy W4 v.ownBlock) (hat4 : v'.ownBlock = v.ownBlock ∨ v'.ownBlock = some W3.heap.size) :
    KeepsOthers W (W4.setCell ⟨w.heap.size + 1, 0, none⟩ v') ∧ KpT 68 W (W4.setCell ⟨w.heap.size + 1, 0, none⟩ v') ∧ IW w H fv (pre ++ [x]) (W4.setCell ⟨w.heap.size + 1, 0, none⟩ v') := by
  have hl5 := hb5.lt
  have hbase := hLL.outer.base
  have b3 : Blk W3 (w.heap.size + 1) 42 #[v] := hb5.below hB3 hb5.lt
  have b4 : Blk W4 (w.heap.size + 1) 42 #[v] := b3.grown hg4 (fun e => by have := hbase _ e.symm; omega)
  have f3 : Blk W3 w.heap.size 37 #[fv] := hb3.below hB3 hb3.lt
  have f4 : Blk W4 w.heap.size 37 #[fv] := f3.grown hg4 (fun e => by have := hbase _ e.symm; omega)
  have hz : W.heap.size ≤ W4.heap.size := Nat.le_trans hB3.size hg4.size
  have hk : ∀ j, j < W.heap.size → some j ≠ v.ownBlock → j ≠ w.heap.size + 1 → (W4.setCell ⟨w.heap.size + 1, 0, none⟩ v').heap[j]? = W.heap[j]? := fun j hj h1 h2 =>
    (Below.heap_setCell W4 ⟨w.heap.size + 1, 0, none⟩ v' j h2).trans ((hg4.block j (Nat.lt_of_lt_of_le hj hB3.size) h1).trans (hB3.block j hj))
  have hvb : ∀ g, v.ownBlock = some g → ∃ cs, W.heap[g]? = some (.cells cs 46 (0, 0)) := fun g hg => by
    rcases hLL.outer.row.2 with ⟨h1, _⟩ | ⟨g', cap, cur, h1, _, hb, _⟩
    · rw [h1] at hg; simp [Value.ownBlock] at hg
    · rw [h1] at hg
      simp [Value.ownBlock] at hg
      subst hg
      exact ⟨_, hb⟩
  have hs5 : (W4.setCell ⟨w.heap.size + 1, 0, none⟩ v').heap.size = W4.heap.size := by simp [World.setCell]
  refine ⟨⟨by rw [hs5]; exact hz, fun j o hj ho => (hk j (Array.getElem?_eq_some_iff.1 hj).1 ?_ ?_).trans hj⟩, ⟨by rw [hs5]; exact hz, fun b cs fr hb => (hk b (Array.getElem?_eq_some_iff.1 hb).1 ?_ ?_).trans hb⟩, ?_⟩
  · intro e
    obtain ⟨cs, hc⟩ := hvb j e.symm
    rw [hc] at hj; injection hj with hj; subst hj; simp [Obj.isCells] at ho
  · intro e
    subst e
    rw [show W.heap[w.heap.size + 1]? = _ from hb5] at hj; injection hj with hj; subst hj; simp [Obj.isCells] at ho
  · intro e
    obtain ⟨cs', hc⟩ := hvb b e.symm
    rw [hc] at hb; injection hb with hb; injection hb with _ hb _; exact absurd hb (by decide)
  · intro e
    subst e
    rw [show W.heap[w.heap.size + 1]? = _ from hb5] at hb; injection hb with hb; injection hb with _ hb _; exact absurd hb (by decide)
  · have hne : ∀ (g : Nat) (cs : Array Value) (t : TypeId), t ≠ 42 → W4.heap[g]? = some (.cells cs t (0, 0)) → g ≠ w.heap.size + 1 := fun g cs t ht hg e => by
      subst e
      rw [show W4.heap[w.heap.size + 1]? = _ from b4] at hg; injection hg with hg; injection hg with _ hg _; exact ht hg.symm
    have hLL4 := (hLL.below hB3).append hu hlu (by omega) ho4 hg4 hat4
    have hLL5 := hLL4.stay (w' := W4.setCell ⟨w.heap.size + 1, 0, none⟩ v') (by rw [hs5]; exact Nat.le_refl _) (fun g cs hc => Below.heap_setCell W4 ⟨w.heap.size + 1, 0, none⟩ v' g (hne g cs _ (by decide) hc)) (fun g cs hc => Below.heap_setCell W4 ⟨w.heap.size + 1, 0, none⟩ v' g (hne g cs _ (by decide) hc))
    have hf : ((pre ++ [x]).filter H).map (·.1) = (pre.filter H).map (·.1) ++ [x.1] := by rw [List.filter_append]; simp [hH]
    refine ⟨⟨v', vs ++ [.slice u x.1.length x.1.length], b4.set 0 v', ?_⟩, f4.off (by show w.heap.size ≠ w.heap.size + 1; omega) _, ?_⟩
    · rw [hf]; exact hLL5.more
    · exact ((hB.trans (hB3.mono hB.size)).grown hg4 (Nat.le_trans hB.size hB3.size) (fun g e => by have := hbase g e; omega)).setCell (p := ⟨w.heap.size + 1, 0, none⟩) (by show w.heap.size ≤ w.heap.size + 1; omega) _
def AxW (w : World) (k : Nat) (fv : Value) (x : VL) (a' : Act) (W : World) : Prop := ∃ Bx, w.heap.size + 2 ≤ Bx ∧ Blk W Bx 68 (arr (pad x.1)) ∧
  a' = { tmps := #[.int .i64 k, fv, undef, .pointer (some ⟨w.heap.size, 0, none⟩), .slice none 0 0, .pointer (some ⟨w.heap.size + 1, 0, none⟩), .pointer (some ⟨Bx, 0, none⟩), .int .i64 k, .func (.func 52) #[] #[.pointer (some ⟨w.heap.size + 1 + 1, 0, none⟩)], .agg (arr (pad x.1)), undef, undef, undef, undef, undef, undef, undef, undef, undef], defers := [] }

set_option maxRecDepth 100000 in
set_option maxHeartbeats 4000000 in
theorem partsWhere_any (k : Nat) (hk : k ≤ 16) (fv : Value) (H0 : List Int → Bool) (w : World) (hfv : IsK w fv H0) (H : VL → Bool) (hH0 : ∀ x : VL, H x = H0 x.1) :
    Calls Tryd.prog 49 #[.int .i64 k, fv] w fun e w' => ∃ (xs : List VL) (a' : Option Addr) (c' : Nat) (vs : List Value), xs.map (·.1) = allQ k k k ∧ e = .returned (.slice a' ((xs.filter H).map (·.1)).length c') ∧ OwnLL w' w.heap.size w'.heap.size 46 3 (.slice a' ((xs.filter H).map (·.1)).length c') vs ((xs.filter H).map (·.1)) ∧ Below w.heap.size w w' := by
  refine (callsIn_wide (n := 6)).1 ?_
  obtain ⟨ff, fp, fc, rfl, he, hh⟩ := hfv
  refine callsIn_of_wp_marks Tryd.func49 rfl trivial ?_ rfl
  simp only [Tryd.ntmps49, List.size_toArray, List.length_cons, List.length_nil, Nat.reduceAdd, Nat.reduceSub, Array.replicate_succ, Array.replicate_zero, List.push_toArray, List.append_toArray, List.nil_append, List.cons_append]
  gi_wp2_with ((refine ⟨trivial, ?_⟩; gi_at_call 51; refine (dwith_in Fence.wide _ trivial rfl _ _).mono ?_; rintro e w' ⟨rfl, rfl⟩))
  obtain ⟨W0, hW0⟩ : ∃ W0, (((w.alloc (.cells #[.func (.func ff) fp fc] 37)).alloc (.cells #[.slice none 0 0] 42)).alloc (.cells #[.int .i64 k] 3)) = W0 := ⟨_, rfl⟩
  have hs0 : W0.heap.size = w.heap.size + 3 := by rw [← hW0]; simp
  have hb3 : Blk W0 w.heap.size 37 #[.func (.func ff) fp fc] := by rw [← hW0]; exact ((Blk.new w _ _).alloc _).alloc _
  have hb5 : Blk W0 (w.heap.size + 1) 42 #[.slice none 0 0] := by
    rw [← hW0]
    have e := (Blk.new (w.alloc (.cells #[.func (.func ff) fp fc] 37)) 42 #[.slice none 0 0]).alloc (.cells #[.int .i64 k] 3)
    rw [World.size_alloc] at e
    exact e
  have hbn : W0.cell? ⟨w.heap.size + 1 + 1, 0, none⟩ = some (.int .i64 k) := by
    rw [← hW0]
    have e := Blk.new ((w.alloc (.cells #[.func (.func ff) fp fc] 37)).alloc (.cells #[.slice none 0 0] 42)) 3 #[.int .i64 k]
    rw [World.size_alloc, World.size_alloc] at e
    rw [e.cell 0]
    rfl
  have hB0 : Below w.heap.size w W0 := by rw [← hW0]; exact (((Below.refl _ _).alloc (Nat.le_refl _) _).alloc (by simp) _).alloc (by simp; omega) _
  rw [hW0]
  have hI0 : IW w H (.func (.func ff) fp fc) [] W0 := ⟨⟨_, [], hb5, by rw [show w.heap.size + 2 = w.heap.size + 2 from rfl]; exact (OwnLL.nil W0 (w.heap.size + 2) _ _)⟩, hb3, hB0⟩
  clear hb3 hb5 hB0 hW0
  refine wpIn_range_T 68 rfl (by omega) (gf := 52) (lb := #[.pointer (some ⟨w.heap.size + 1 + 1, 0, none⟩)]) rfl trivial (enters_of Tryd.func52 (by kernel_rfl) rfl)
    (dwith_seq Fence.wide rfl trivial trivial rfl (6 - 1) k (w.heap.size + 1 + 1) hk W0 (by omega) hbn) (Below.refl _ _) (fun _ => rfl)
    (IW w H (.func (.func ff) fp fc)) (fun _ _ _ => False) (iw_from w H _ _ (by omega)) (fun _ _ _ _ _ h _ _ => h) (iw_abt w H _ _ (by omega)) (fun _ => ⟨fun _ _ _ h => h, fun _ _ _ h => h, fun _ _ _ _ _ _ _ h _ _ => h⟩) hI0
    (AxW w k (.func (.func ff) fp fc)) ?hax ?assign ?body ?done ?stop
  case hax =>
    rintro a' s W W' row ⟨Bx, hBx, hb, rfl⟩ hg hr
    refine ⟨Bx, hBx, hb.grown hg (fun e => ?_), rfl⟩
    obtain ⟨_, o, ho, hc⟩ := hr Bx e.symm
    rw [show W.heap[Bx]? = _ from hb] at ho; injection ho with ho; subst ho; simp [Obj.isCells] at hc
  case assign =>
    intro l pre x W K hi hK
    have hlen : x.1.length ≤ 16 := (valid_bd x.2).2.2.2
    have hi16 : (Tryd.prog.info? 68).map (·.size) = some (arr (pad x.1)).size := by rw [arr_size, pad_len hlen]; exact T_info35
    have hszx : (arr (pad x.1)).size = (arr (List.replicate 16 0)).size := by rw [arr_size, arr_size, pad_len hlen]; rfl
    have hbz := Blk.new W 68 (arr (List.replicate 16 0))
    have hbw : Below W.heap.size W ((W.alloc (.cells (arr (List.replicate 16 0)) 68)).setRow W.heap.size (arr (pad x.1))) := below_setRow' ((Below.refl _ _).alloc (Nat.le_refl _) _) (Nat.le_refl _) _
    have hlt := hi.1.choose_spec.choose_spec.1.lt
    gi_wp2_with (refine wpListIn_store_row rfl 68 (.tmp 6) (.tmp 9) rfl W.heap.size (arr (pad x.1)) rfl rfl (run_storeVar_row _ W.heap.size 68 68 _ _ hbz hi16 hszx (arr_one _)) ?_)
    exact hK _ _ (ko_below hbw) (KpT.below hbw) (iw_below hi hbw) ⟨W.heap.size, by omega, hbz.row, rfl⟩
  case body =>
    rintro l pre x a' W ⟨⟨v, vs, hb5, hLL⟩, hb3, hB⟩ ⟨Bx, hBx, hbx, rfl⟩ hlen
    have hpl : x.1.length ≤ 16 := (valid_bd x.2).2.2.2
    have hi16 : (Tryd.prog.info? 68).map (·.size) = some (arr (pad x.1)).size := by rw [arr_size, pad_len hpl]; exact T_info35
    have c3 : W.cell? ⟨w.heap.size, 0, none⟩ = some (.func (.func ff) fp fc) := by rw [hb3.cell 0]; rfl
    have hhx := hh W hB x.1 x.2
    rw [← hH0] at hhx
    have hIW : IW w H (.func (.func ff) fp fc) pre W := ⟨⟨v, vs, hb5, hLL⟩, hb3, hB⟩
    cases hH : H x with
    | false =>
      rw [hH] at hhx
      have hf : (pre ++ [x]).filter H = pre.filter H := by rw [List.filter_append]; simp [hH]
      gi_wp2_with (first
        | (refine wpListIn_load_row rfl 68 (.tmp 6) rfl Bx rfl 68 (arr (pad x.1)) (0, 0) _ hbx Tryd.underlying68 rfl hi16 ?_)
        | (refine ⟨trivial, ?_⟩; refine (CallsIn.inRound l (callsIn_wide.2 hhx)).mono ?_; rintro e W1 ⟨rfl, hb1⟩))
      refine ⟨ko_below hb1, KpT.below hb1, ?_⟩
      have := iw_below hIW hb1
      unfold IW at this ⊢
      rw [hf]
      exact this
    | true =>
      rw [hH] at hhx
      gi_wp2_with (first
        | (refine wpListIn_load_row rfl 68 (.tmp 6) rfl Bx rfl 68 (arr (pad x.1)) (0, 0) _ hbx Tryd.underlying68 rfl hi16 ?_)
        | (refine ⟨trivial, ?_⟩; refine (CallsIn.inRound l (callsIn_wide.2 hhx)).mono ?_; rintro e W1 ⟨rfl, hb1⟩))
      have hmx : Tryd.prog.follows .mixedOrders = true := by kernel_rfl
      obtain ⟨i22, hi22, hq0, hq1, hq2⟩ := info_parts T_ints2
      have hvl : vs.length ≤ 1000 := by
        have h1 := hLL.len
        have h2 := List.length_filter_le H pre
        have h3 := allQ_len hk
        rw [List.length_map] at h1
        omega
      have hIW1 := iw_below hIW hb1
      have hbx1 := hbx.below hb1 hbx.lt
      refine wpIn_region_any hmx ?_
      obtain ⟨y, hy⟩ : ∃ y, W1.drew = y := ⟨_, rfl⟩
      change wpAnyIn _ _ _ _ _ _ _ _ _ (World.drew _)
      rw [hy]
      have hb1y : Below W.heap.size W y := by rw [← hy]; exact hb1.trans ((Dr.n W1 1).below _)
      have hb5y : Blk y (w.heap.size + 1) 42 #[v] := hb5.below hb1y hb5.lt
      have c5y : y.cell? ⟨w.heap.size + 1, 0, none⟩ = some v := by rw [hb5y.cell 0]; rfl
      have hlt5y : w.heap.size + 1 < y.heap.size := hb5y.lt
      have hbxy : Blk y Bx 68 (arr (pad x.1)) := hbx.below hb1y hbx.lt
      have hld := run_loadVar_row y Bx 68 68 (arr (pad x.1)) (0, 0) _ hbxy Tryd.underlying68 rfl hi16
      refine wpAnyIn_ready (rs := [0, 1]) (by kernel_rfl) (by simp) ?_
      refine AllReadyIn.cons rfl (fun K hK => ?_) ?_
      · skip
        rw [if_pos (by rfl)]
        refine opIn_val (v := v) (w' := y) (by simp [Oper.about]) (by have hc := c5y; go_simp) ?_
        refine hK _ _ ?_
        clear hK K
        try simp only [Act.put, List.setIfInBounds_toArray, List.set_cons_zero, List.set_cons_succ]
        refine wpAnyIn_ready (rs := [1]) (by kernel_rfl) (by simp) ?_
        refine AllReadyIn.cons rfl (fun K hK => ?_) AllReadyIn.nil
        rw [if_pos (by rfl)]
        refine opIn_loadv 68 (.tmp 6) rfl ⟨Bx, 0, none⟩ rfl hld ?_
        refine hK _ _ ?_
        clear hK K
        try simp only [Act.put, List.setIfInBounds_toArray, List.set_cons_zero, List.set_cons_succ]
        refine wpAnyIn_ready (rs := [2]) (by kernel_rfl) (by simp) ?_
        refine AllReadyIn.cons rfl (fun K hK => ?_) AllReadyIn.nil
        rw [if_pos (by rfl)]
        go_simp
        refine ⟨trivial, ?_⟩
        gi_at_call 43
        refine (CallsIn.inRound l (callsIn_wide.2 (list_any x.1 x.2 y))).mono ?_
        rintro e W2 ⟨u, rfl, hu, hb2⟩
        have hB2 := hb1y.trans (hb2.mono hb1y.size)
        have c5b : W2.cell? ⟨w.heap.size + 1, 0, none⟩ = some v := (hb2.cell (p := ⟨w.heap.size + 1, 0, none⟩) hlt5y).trans c5y
        have hu' := hu
        obtain ⟨W3, hW3⟩ : ∃ W3, W2.alloc (.cells #[.slice u x.1.length x.1.length] 46) = W3 := ⟨_, rfl⟩
        have c5c : W3.cell? ⟨w.heap.size + 1, 0, none⟩ = some v := by rw [← hW3]; exact (((Below.refl W2.heap.size W2).alloc (Nat.le_refl _) _).cell (p := ⟨w.heap.size + 1, 0, none⟩) (World.block_lt_of_cell? W2 _ c5b)).trans c5b
        refine hK _ _ ?_
        clear hK K
        try simp only [Act.put, List.setIfInBounds_toArray, List.set_cons_zero, List.set_cons_succ]
        refine wpAnyIn_ready (rs := [3]) (by kernel_rfl) (by simp) ?_
        refine AllReadyIn.cons rfl (fun K hK => ?_) AllReadyIn.nil
        rw [if_pos (by rfl)]
        refine opIn_val (v := .slice (some ⟨W2.heap.size, 0, none⟩) 1 1) (w' := W3) (by simp [Oper.about]) (by rw [← hW3]; go_simp) ?_
        refine hK _ _ ?_
        clear hK K
        try simp only [Act.put, List.setIfInBounds_toArray, List.set_cons_zero, List.set_cons_succ]
        refine wpAnyIn_ready (rs := [4]) (by kernel_rfl) (by simp) ?_
        refine AllReadyIn.cons rfl (fun K hK => ?_) AllReadyIn.nil
        rw [if_pos (by rfl)]
        have hoW3 : Own W3 (w.heap.size + 2) W.heap.size 46 v vs := by rw [← hW3]; exact (hLL.outer.below hB2).alloc _
        have hrW3 : Rd W3 (W2.heap.size + 1) (some ⟨W2.heap.size, 0, none⟩) [.slice u x.1.length x.1.length] := by rw [← hW3]; exact Rd.one W2 _ _
        have hs3 : W3.heap.size = W2.heap.size + 1 := by rw [← hW3]; simp
        have hB3 : Below W.heap.size W W3 := by rw [← hW3]; exact hB2.alloc hB2.size _
        obtain ⟨v', W4, hrun, ho4, hg4, hat4⟩ := run_append_o (P := Tryd.prog) (m := 1) (c := 1) W3 (w.heap.size + 2) W.heap.size 42 42 46 i22 (.slice none 0 0) 24 Tryd.underlying42 hi22 hq0 hq1 hq2 rfl hoW3 hrW3 rfl (by simp; rfl) (by unfold maxLen; omega) (by omega) (by have := hb5.lt; have := hB3.size; omega)
        refine opIn_append (.tmp 13) (.tmp 16) 42 rfl rfl rfl hrun ?_
        refine hK _ _ ?_
        clear hK K
        try simp only [Act.put, List.setIfInBounds_toArray, List.set_cons_zero, List.set_cons_succ]
        refine wpAnyIn_ready (rs := [5]) (by kernel_rfl) (by simp) ?_
        refine AllReadyIn.cons rfl (fun K hK => ?_) AllReadyIn.nil
        have b5c : Blk W3 (w.heap.size + 1) 42 #[v] := hb5.below hB3 hb5.lt
        have b5d : Blk W4 (w.heap.size + 1) 42 #[v] := b5c.grown hg4 (fun e => by have := hoW3.base _ e.symm; omega)
        have c5d : W4.cell? ⟨w.heap.size + 1, 0, none⟩ = some v := by rw [b5d.cell 0]; rfl
        have f5d : W4.frozen? ⟨w.heap.size + 1, 0, none⟩ = false := b5d.free 0
        rw [if_pos (by rfl)]
        refine opIn_store 42 (.tmp 5) (.tmp 17) rfl ⟨w.heap.size + 1, 0, none⟩ rfl (w' := W4.setCell ⟨w.heap.size + 1, 0, none⟩ v') (by have hq := c5d; have hq' := f5d; obtain ⟨av, cv, rfl⟩ := ho4.form; go_simp) ?_
        refine hK _ _ ?_
        clear hK K
        try simp only [Act.put, List.setIfInBounds_toArray, List.set_cons_zero, List.set_cons_succ]
        refine wpAnyIn_done (by kernel_rfl) ?_ _
        exact round_end hLL hb5 hb3 hB hH hB3 (by rw [← hW3]; exact hu'.alloc _) hb1y.size ho4 hg4 hat4
      refine AllReadyIn.cons rfl (fun K hK => ?_) AllReadyIn.nil
      rw [if_pos (by rfl)]
      refine opIn_loadv 68 (.tmp 6) rfl ⟨Bx, 0, none⟩ rfl hld ?_
      refine hK _ _ ?_
      clear hK K
      try simp only [Act.put, List.setIfInBounds_toArray, List.set_cons_zero, List.set_cons_succ]
      refine wpAnyIn_ready (rs := [0, 2]) (by kernel_rfl) (by simp) ?_
      refine AllReadyIn.cons rfl (fun K hK => ?_) ?_
      · skip
        rw [if_pos (by rfl)]
        refine opIn_val (v := v) (w' := y) (by simp [Oper.about]) (by have hc := c5y; go_simp) ?_
        refine hK _ _ ?_
        clear hK K
        try simp only [Act.put, List.setIfInBounds_toArray, List.set_cons_zero, List.set_cons_succ]
        refine wpAnyIn_ready (rs := [2]) (by kernel_rfl) (by simp) ?_
        refine AllReadyIn.cons rfl (fun K hK => ?_) AllReadyIn.nil
        rw [if_pos (by rfl)]
        go_simp
        refine ⟨trivial, ?_⟩
        gi_at_call 43
        refine (CallsIn.inRound l (callsIn_wide.2 (list_any x.1 x.2 y))).mono ?_
        rintro e W2 ⟨u, rfl, hu, hb2⟩
        have hB2 := hb1y.trans (hb2.mono hb1y.size)
        have c5b : W2.cell? ⟨w.heap.size + 1, 0, none⟩ = some v := (hb2.cell (p := ⟨w.heap.size + 1, 0, none⟩) hlt5y).trans c5y
        have hu' := hu
        obtain ⟨W3, hW3⟩ : ∃ W3, W2.alloc (.cells #[.slice u x.1.length x.1.length] 46) = W3 := ⟨_, rfl⟩
        have c5c : W3.cell? ⟨w.heap.size + 1, 0, none⟩ = some v := by rw [← hW3]; exact (((Below.refl W2.heap.size W2).alloc (Nat.le_refl _) _).cell (p := ⟨w.heap.size + 1, 0, none⟩) (World.block_lt_of_cell? W2 _ c5b)).trans c5b
        refine hK _ _ ?_
        clear hK K
        try simp only [Act.put, List.setIfInBounds_toArray, List.set_cons_zero, List.set_cons_succ]
        refine wpAnyIn_ready (rs := [3]) (by kernel_rfl) (by simp) ?_
        refine AllReadyIn.cons rfl (fun K hK => ?_) AllReadyIn.nil
        rw [if_pos (by rfl)]
        refine opIn_val (v := .slice (some ⟨W2.heap.size, 0, none⟩) 1 1) (w' := W3) (by simp [Oper.about]) (by rw [← hW3]; go_simp) ?_
        refine hK _ _ ?_
        clear hK K
        try simp only [Act.put, List.setIfInBounds_toArray, List.set_cons_zero, List.set_cons_succ]
        refine wpAnyIn_ready (rs := [4]) (by kernel_rfl) (by simp) ?_
        refine AllReadyIn.cons rfl (fun K hK => ?_) AllReadyIn.nil
        rw [if_pos (by rfl)]
        have hoW3 : Own W3 (w.heap.size + 2) W.heap.size 46 v vs := by rw [← hW3]; exact (hLL.outer.below hB2).alloc _
        have hrW3 : Rd W3 (W2.heap.size + 1) (some ⟨W2.heap.size, 0, none⟩) [.slice u x.1.length x.1.length] := by rw [← hW3]; exact Rd.one W2 _ _
        have hs3 : W3.heap.size = W2.heap.size + 1 := by rw [← hW3]; simp
        have hB3 : Below W.heap.size W W3 := by rw [← hW3]; exact hB2.alloc hB2.size _
        obtain ⟨v', W4, hrun, ho4, hg4, hat4⟩ := run_append_o (P := Tryd.prog) (m := 1) (c := 1) W3 (w.heap.size + 2) W.heap.size 42 42 46 i22 (.slice none 0 0) 24 Tryd.underlying42 hi22 hq0 hq1 hq2 rfl hoW3 hrW3 rfl (by simp; rfl) (by unfold maxLen; omega) (by omega) (by have := hb5.lt; have := hB3.size; omega)
        refine opIn_append (.tmp 13) (.tmp 16) 42 rfl rfl rfl hrun ?_
        refine hK _ _ ?_
        clear hK K
        try simp only [Act.put, List.setIfInBounds_toArray, List.set_cons_zero, List.set_cons_succ]
        refine wpAnyIn_ready (rs := [5]) (by kernel_rfl) (by simp) ?_
        refine AllReadyIn.cons rfl (fun K hK => ?_) AllReadyIn.nil
        have b5c : Blk W3 (w.heap.size + 1) 42 #[v] := hb5.below hB3 hb5.lt
        have b5d : Blk W4 (w.heap.size + 1) 42 #[v] := b5c.grown hg4 (fun e => by have := hoW3.base _ e.symm; omega)
        have c5d : W4.cell? ⟨w.heap.size + 1, 0, none⟩ = some v := by rw [b5d.cell 0]; rfl
        have f5d : W4.frozen? ⟨w.heap.size + 1, 0, none⟩ = false := b5d.free 0
        rw [if_pos (by rfl)]
        refine opIn_store 42 (.tmp 5) (.tmp 17) rfl ⟨w.heap.size + 1, 0, none⟩ rfl (w' := W4.setCell ⟨w.heap.size + 1, 0, none⟩ v') (by have hq := c5d; have hq' := f5d; obtain ⟨av, cv, rfl⟩ := ho4.form; go_simp) ?_
        refine hK _ _ ?_
        clear hK K
        try simp only [Act.put, List.setIfInBounds_toArray, List.set_cons_zero, List.set_cons_succ]
        refine wpAnyIn_done (by kernel_rfl) ?_ _
        exact round_end hLL hb5 hb3 hB hH hB3 (by rw [← hW3]; exact hu'.alloc _) hb1y.size ho4 hg4 hat4
      refine AllReadyIn.cons rfl (fun K hK => ?_) AllReadyIn.nil
      rw [if_pos (by rfl)]
      go_simp
      refine ⟨trivial, ?_⟩
      gi_at_call 43
      refine (CallsIn.inRound l (callsIn_wide.2 (list_any x.1 x.2 y))).mono ?_
      rintro e W2 ⟨u, rfl, hu, hb2⟩
      have hB2 := hb1y.trans (hb2.mono hb1y.size)
      have c5b : W2.cell? ⟨w.heap.size + 1, 0, none⟩ = some v := (hb2.cell (p := ⟨w.heap.size + 1, 0, none⟩) hlt5y).trans c5y
      have hu' := hu
      obtain ⟨W3, hW3⟩ : ∃ W3, W2.alloc (.cells #[.slice u x.1.length x.1.length] 46) = W3 := ⟨_, rfl⟩
      have c5c : W3.cell? ⟨w.heap.size + 1, 0, none⟩ = some v := by rw [← hW3]; exact (((Below.refl W2.heap.size W2).alloc (Nat.le_refl _) _).cell (p := ⟨w.heap.size + 1, 0, none⟩) (World.block_lt_of_cell? W2 _ c5b)).trans c5b
      refine hK _ _ ?_
      clear hK K
      try simp only [Act.put, List.setIfInBounds_toArray, List.set_cons_zero, List.set_cons_succ]
      refine wpAnyIn_ready (rs := [0, 3]) (by kernel_rfl) (by simp) ?_
      refine AllReadyIn.cons rfl (fun K hK => ?_) ?_
      · skip
        rw [if_pos (by rfl)]
        refine opIn_val (v := v) (w' := W2) (by simp [Oper.about]) (by have hc := c5b; go_simp) ?_
        refine hK _ _ ?_
        clear hK K
        try simp only [Act.put, List.setIfInBounds_toArray, List.set_cons_zero, List.set_cons_succ]
        refine wpAnyIn_ready (rs := [3]) (by kernel_rfl) (by simp) ?_
        refine AllReadyIn.cons rfl (fun K hK => ?_) AllReadyIn.nil
        rw [if_pos (by rfl)]
        refine opIn_val (v := .slice (some ⟨W2.heap.size, 0, none⟩) 1 1) (w' := W3) (by simp [Oper.about]) (by rw [← hW3]; go_simp) ?_
        refine hK _ _ ?_
        clear hK K
        try simp only [Act.put, List.setIfInBounds_toArray, List.set_cons_zero, List.set_cons_succ]
        refine wpAnyIn_ready (rs := [4]) (by kernel_rfl) (by simp) ?_
        refine AllReadyIn.cons rfl (fun K hK => ?_) AllReadyIn.nil
        rw [if_pos (by rfl)]
        have hoW3 : Own W3 (w.heap.size + 2) W.heap.size 46 v vs := by rw [← hW3]; exact (hLL.outer.below hB2).alloc _
        have hrW3 : Rd W3 (W2.heap.size + 1) (some ⟨W2.heap.size, 0, none⟩) [.slice u x.1.length x.1.length] := by rw [← hW3]; exact Rd.one W2 _ _
        have hs3 : W3.heap.size = W2.heap.size + 1 := by rw [← hW3]; simp
        have hB3 : Below W.heap.size W W3 := by rw [← hW3]; exact hB2.alloc hB2.size _
        obtain ⟨v', W4, hrun, ho4, hg4, hat4⟩ := run_append_o (P := Tryd.prog) (m := 1) (c := 1) W3 (w.heap.size + 2) W.heap.size 42 42 46 i22 (.slice none 0 0) 24 Tryd.underlying42 hi22 hq0 hq1 hq2 rfl hoW3 hrW3 rfl (by simp; rfl) (by unfold maxLen; omega) (by omega) (by have := hb5.lt; have := hB3.size; omega)
        refine opIn_append (.tmp 13) (.tmp 16) 42 rfl rfl rfl hrun ?_
        refine hK _ _ ?_
        clear hK K
        try simp only [Act.put, List.setIfInBounds_toArray, List.set_cons_zero, List.set_cons_succ]
        refine wpAnyIn_ready (rs := [5]) (by kernel_rfl) (by simp) ?_
        refine AllReadyIn.cons rfl (fun K hK => ?_) AllReadyIn.nil
        have b5c : Blk W3 (w.heap.size + 1) 42 #[v] := hb5.below hB3 hb5.lt
        have b5d : Blk W4 (w.heap.size + 1) 42 #[v] := b5c.grown hg4 (fun e => by have := hoW3.base _ e.symm; omega)
        have c5d : W4.cell? ⟨w.heap.size + 1, 0, none⟩ = some v := by rw [b5d.cell 0]; rfl
        have f5d : W4.frozen? ⟨w.heap.size + 1, 0, none⟩ = false := b5d.free 0
        rw [if_pos (by rfl)]
        refine opIn_store 42 (.tmp 5) (.tmp 17) rfl ⟨w.heap.size + 1, 0, none⟩ rfl (w' := W4.setCell ⟨w.heap.size + 1, 0, none⟩ v') (by have hq := c5d; have hq' := f5d; obtain ⟨av, cv, rfl⟩ := ho4.form; go_simp) ?_
        refine hK _ _ ?_
        clear hK K
        try simp only [Act.put, List.setIfInBounds_toArray, List.set_cons_zero, List.set_cons_succ]
        refine wpAnyIn_done (by kernel_rfl) ?_ _
        exact round_end hLL hb5 hb3 hB hH hB3 (by rw [← hW3]; exact hu'.alloc _) hb1y.size ho4 hg4 hat4
      refine AllReadyIn.cons rfl (fun K hK => ?_) AllReadyIn.nil
      rw [if_pos (by rfl)]
      refine opIn_val (v := .slice (some ⟨W2.heap.size, 0, none⟩) 1 1) (w' := W3) (by simp [Oper.about]) (by rw [← hW3]; go_simp) ?_
      refine hK _ _ ?_
      clear hK K
      try simp only [Act.put, List.setIfInBounds_toArray, List.set_cons_zero, List.set_cons_succ]
      refine wpAnyIn_ready (rs := [0]) (by kernel_rfl) (by simp) ?_
      refine AllReadyIn.cons rfl (fun K hK => ?_) AllReadyIn.nil
      rw [if_pos (by rfl)]
      refine opIn_val (v := v) (w' := W3) (by simp [Oper.about]) (by have hc := c5c; go_simp) ?_
      refine hK _ _ ?_
      clear hK K
      try simp only [Act.put, List.setIfInBounds_toArray, List.set_cons_zero, List.set_cons_succ]
      refine wpAnyIn_ready (rs := [4]) (by kernel_rfl) (by simp) ?_
      refine AllReadyIn.cons rfl (fun K hK => ?_) AllReadyIn.nil
      rw [if_pos (by rfl)]
      have hoW3 : Own W3 (w.heap.size + 2) W.heap.size 46 v vs := by rw [← hW3]; exact (hLL.outer.below hB2).alloc _
      have hrW3 : Rd W3 (W2.heap.size + 1) (some ⟨W2.heap.size, 0, none⟩) [.slice u x.1.length x.1.length] := by rw [← hW3]; exact Rd.one W2 _ _
      have hs3 : W3.heap.size = W2.heap.size + 1 := by rw [← hW3]; simp
      have hB3 : Below W.heap.size W W3 := by rw [← hW3]; exact hB2.alloc hB2.size _
      obtain ⟨v', W4, hrun, ho4, hg4, hat4⟩ := run_append_o (P := Tryd.prog) (m := 1) (c := 1) W3 (w.heap.size + 2) W.heap.size 42 42 46 i22 (.slice none 0 0) 24 Tryd.underlying42 hi22 hq0 hq1 hq2 rfl hoW3 hrW3 rfl (by simp; rfl) (by unfold maxLen; omega) (by omega) (by have := hb5.lt; have := hB3.size; omega)
      refine opIn_append (.tmp 13) (.tmp 16) 42 rfl rfl rfl hrun ?_
      refine hK _ _ ?_
      clear hK K
      try simp only [Act.put, List.setIfInBounds_toArray, List.set_cons_zero, List.set_cons_succ]
      refine wpAnyIn_ready (rs := [5]) (by kernel_rfl) (by simp) ?_
      refine AllReadyIn.cons rfl (fun K hK => ?_) AllReadyIn.nil
      have b5c : Blk W3 (w.heap.size + 1) 42 #[v] := hb5.below hB3 hb5.lt
      have b5d : Blk W4 (w.heap.size + 1) 42 #[v] := b5c.grown hg4 (fun e => by have := hoW3.base _ e.symm; omega)
      have c5d : W4.cell? ⟨w.heap.size + 1, 0, none⟩ = some v := by rw [b5d.cell 0]; rfl
      have f5d : W4.frozen? ⟨w.heap.size + 1, 0, none⟩ = false := b5d.free 0
      rw [if_pos (by rfl)]
      refine opIn_store 42 (.tmp 5) (.tmp 17) rfl ⟨w.heap.size + 1, 0, none⟩ rfl (w' := W4.setCell ⟨w.heap.size + 1, 0, none⟩ v') (by have hq := c5d; have hq' := f5d; obtain ⟨av, cv, rfl⟩ := ho4.form; go_simp) ?_
      refine hK _ _ ?_
      clear hK K
      try simp only [Act.put, List.setIfInBounds_toArray, List.set_cons_zero, List.set_cons_succ]
      refine wpAnyIn_done (by kernel_rfl) ?_ _
      exact round_end hLL hb5 hb3 hB hH hB3 (by rw [← hW3]; exact hu'.alloc _) hb1y.size ho4 hg4 hat4

  case done =>
    rintro D ys W hD hS hIW hK
    clear hH0
    have hIW2 := (iw_from w H (.func (.func ff) fp fc) w.heap.size (Nat.le_refl _)).putObj (.deferred none) hIW (by omega) hK rfl
    obtain ⟨⟨v, vs, hb5, hLL⟩, hb3, hB⟩ := hIW
    obtain ⟨⟨v2, vs2, hb52, hLL2⟩, -, hB2⟩ := hIW2
    have c5 : W.cell? ⟨w.heap.size + 1, 0, none⟩ = some v := by rw [hb5.cell 0]; rfl
    have hvv : v2 = v := by
      have hne : w.heap.size + 1 ≠ D := by rintro rfl; rw [show W.heap[w.heap.size + 1]? = _ from hb5] at hK; cases hK
      have e := (World.putObj_heap_other (w := W) (o := .deferred none) hne).symm.trans (show (W.putObj D (.deferred none)).heap[w.heap.size + 1]? = _ from hb52)
      rw [show W.heap[w.heap.size + 1]? = _ from hb5] at e
      injection e with e
      injection e with e _ _
      injection e with e
      simpa using e.symm
    subst hvv
    obtain ⟨av, cv, rfl⟩ := hLL.form
    gi_wp2
    refine ⟨by simp, .inl ⟨_, _, rfl, run_takeDeferred hK, ?_⟩⟩
    refine ⟨_, results_tmp rfl _ _ _, ys, av, cv, vs2, hS, by simp, hLL2.lower (by omega), hB2⟩
  case stop =>
    rintro D c pre W _ _ h _
    exact h.elim
end Go.Proofs.YtmlomapifldlpaaDoor
namespace Go.Proofs.YtmlomapifldlpaaDoor
open Go.RowKit NP
set_option maxRecDepth 8000
set_option linter.unusedVariables false
set_option linter.unusedSimpArgs false
theorem filter_VL {xs : List VL} {l : List (List Int)} (h : xs.map (·.1) = l) (H0 : List Int → Bool) : (xs.filter (fun x => H0 x.1)).map (·.1) = l.filter H0 := by
  rw [← h, List.filter_map]; rfl
theorem partsWhere_all (k : Nat) (hk : k ≤ 16) (fv : Value) (H0 : List Int → Bool) (w : World) (hfv : IsK w fv H0) :
    Calls Tryd.prog 49 #[.int .i64 k, fv] w fun e w' => ∃ (a' : Option Addr) (c' : Nat) (vs : List Value), e = .returned (.slice a' ((allQ k k k).filter H0).length c') ∧ OwnLL w' w.heap.size w'.heap.size 46 3 (.slice a' ((allQ k k k).filter H0).length c') vs ((allQ k k k).filter H0) ∧ Below w.heap.size w w' := by
  refine (partsWhere_any k hk fv H0 w hfv (fun x => H0 x.1) (fun _ => rfl)).mono ?_
  rintro e w' ⟨xs, a', c', vs, hxs, rfl, hLL, hb⟩
  have e1 := filter_VL hxs H0
  rw [e1] at hLL
  exact ⟨a', c', vs, by rw [e1], hLL, hb⟩
theorem listWhere_any (k : Nat) (hk : k ≤ 12) (fv : Value) (H0 : List Int → Bool) (w : World) (hfv : IsK w fv H0) :
    Calls Tryd.prog 31 #[.int .i64 k, fv] w fun e w' => ∃ (a' : Option Addr) (c' : Nat) (vs : List Value), e = .returned (.slice a' ((allQ k k k).filter H0).length c') ∧ OwnLL w' w.heap.size w'.heap.size 46 3 (.slice a' ((allQ k k k).filter H0).length c') vs ((allQ k k k).filter H0) ∧ Below w.heap.size w w' := by
  have d1 : decide ((k : Int) < 0) = false := decide_eq_false (by omega)
  have d2 : decide ((12 : Int) < (k : Int)) = false := decide_eq_false (by omega)
  have d2' : decide (12 < k) = false := decide_eq_false (by omega)
  go_enter Tryd.func31, Tryd.ntmps31
  go_wp2_with (go_at_call 49; refine (partsWhere_all k (by omega) fv H0 _ hfv).mono ?_; rintro e w1 ⟨a', c', vs, rfl, hLL, hb⟩)
  go_ret
  exact ⟨a', c', vs, rfl, hLL, hb⟩
theorem listWhere_no (n : Int) (h : ¬ (0 ≤ n ∧ n ≤ 12)) (f : Value) (w : World) :
    Calls Tryd.prog 31 #[.int .i64 n, f] w fun e w' => e = .returned (.slice none 0 0) ∧ Below w.heap.size w w' := by
  by_cases h0 : n < 0
  · have d1 : decide (n < 0) = true := decide_eq_true h0
    go_enter Tryd.func31, Tryd.ntmps31
    go_wp2_with fail
    go_ret
    exact ⟨rfl, Below.refl _ _⟩
  · have d1 : decide (n < 0) = false := decide_eq_false h0
    have d2 : decide (12 < n) = true := decide_eq_true (by omega)
    go_enter Tryd.func31, Tryd.ntmps31
    go_wp2_with fail
    go_ret
    exact ⟨rfl, Below.refl _ _⟩
end Go.Proofs.YtmlomapifldlpaaDoor
namespace Go.Proofs.YtmlomapifldlpaaDoor
open Go.RowKit NP
set_option maxRecDepth 8000
set_option linter.unusedVariables false
theorem keepD2 {wr wx w' : World} {p q : Addr} {x y : Value} (h1 : wx.cell? p = some x) (h2 : wx.cell? q = some y) (h3 : Dr wr wx) (hd : Dr wx w') : w'.cell? p = some x ∧ w'.cell? q = some y ∧ Dr wr w' := by
  obtain ⟨n, rfl⟩ := hd
  exact ⟨h1, h2, h3.drewN n⟩



end Go.Proofs.YtmlomapifldlpaaDoor
namespace Go.Proofs.YtmlomapifldlpaaDoor
open Go.RowKit NP
set_option maxRecDepth 8000
set_option linter.unusedVariables false
theorem T_ints : (Tryd.prog.info? 46).map (fun i => (i.zero, i.size, i.bytes)) = some (some (.slice none 0 0), 1, 24) := by kernel_rfl

theorem slist_zero (a : Option Addr) (c B : Nat) (H : List Int) (most : Int) (w : World) (h : Rd w B a (ints H)) (hB : B ≤ w.heap.size) (hl : H.length ≤ 100) :
    Calls Tryd.prog 39 #[.slice a H.length c, .int .i64 0, .int .i64 most] w fun e w' => ∃ a' c' vs, e = .returned (.slice a' 1 c') ∧ OwnLL w' w.heap.size w'.heap.size 46 3 (.slice a' 1 c') vs [H] ∧ Below w.heap.size w w' := by
  obtain ⟨i0, hi, hz0, hz1, hz2⟩ := T_int'
  go_enter Tryd.func39, Tryd.ntmps39
  go_wp2_with (at_builtin; refine wpList_append_o _ rfl (.tmp 11) (.tmp 12) 46 rfl w.heap.size (w.heap.size + 1) 3 i0 (.int .i64 0) 8 Tryd.underlying46 hi hz0 hz1 hz2 rfl _ [] rfl (Own.empty w 3) B a H.length c (ints H) rfl (h.alloc hB _) (by simp) (ints_one H) (by simp; unfold maxLen; omega) (by simp; omega) (by simp) ?_; intro v' w1 ho1 hg1 hat1; rw [List.nil_append] at ho1; obtain ⟨a2, c2, rfl⟩ := ho1.form; rw [List.length_map] at ho1 ⊢)
  have hg2 : (w.alloc (.cells #[] 3)).grownBy w1 (some w.heap.size) := hg1
  have hz1' := hg2.size
  simp at hz1'
  have hbl : Below w.heap.size w w1 := below_push (Below.refl _ _) (Nat.le_refl _) hg2 (fun g hg => by cases hg; exact Nat.le_refl _)
  go_ret
  exact ⟨_, _, _, rfl, by have := OwnLL.single (eo := 46) ho1 (by omega); simpa using this, hbl.alloc (by omega) _⟩
end Go.Proofs.YtmlomapifldlpaaDoor
