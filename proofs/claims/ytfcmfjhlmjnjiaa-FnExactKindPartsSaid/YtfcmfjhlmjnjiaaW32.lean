/-
  Walks of the program: the map of kinds by their names.
-/
import Derived.Test.YtfcmfjhlmjnjiaaW31
import Derived.Maps.Own
import Derived.Maps.OwnSet
namespace Go.Proofs.Ytfcmfjhlmjnjiaa
open Go.RowKit NP
open Go.Maps (Keyed has string_keyed)
open Go.WideMaps (keyOf_string_mk)
set_option linter.unusedVariables false
set_option linter.unusedSimpArgs false

/-- every block but b that stood stands as it did -/
def Kept (b : Nat) (w w' : World) : Prop := (∀ g, g < w.heap.size → g ≠ b → w'.heap[g]? = w.heap[g]?) ∧ w.heap.size ≤ w'.heap.size
theorem Kept.refl (b : Nat) (w : World) : Kept b w w := ⟨fun _ _ _ => rfl, Nat.le_refl _⟩
theorem Kept.trans {b : Nat} {w w' w'' : World} (h : Kept b w w') (k : Kept b w' w'') : Kept b w w'' := ⟨fun g hg hne => (k.1 g (Nat.lt_of_lt_of_le hg h.2) hne).trans (h.1 g hg hne), Nat.le_trans h.2 k.2⟩
theorem Kept.ofBelow {b : Nat} {w w' : World} (h : Below w.heap.size w w') : Kept b w w' := ⟨fun g hg _ => h.block g hg, h.size⟩
theorem Kept.ofGrown {b : Nat} {w w' : World} (h : w.grownBy w' (some b)) : Kept b w w' := ⟨fun g hg hne => h.block g hg (fun e => by injection e with e; exact hne e), h.size⟩
theorem below_chg {B : Nat} {b c w0 : World} {g : Nat} (hb : Below B w0 b) (hB : B ≤ w0.heap.size) (hg : B ≤ g) (h : b.grownBy c (some g)) : Below B w0 c := hb.grown h (by have := hb.size; omega) fun k hk => by injection hk with hk; omega

/-- a function value that tells of each diagram of parts whether K holds of them, wherever the blocks that it captured stand, of which b is none -/
def IsKb (b : Nat) (w : World) (v : Value) (K : List Int → Bool) : Prop := ∃ (f : Nat) (p c : Array Value) (S : Nat → Prop), v = .func (.func f) p c ∧ (∀ (args : Array Value) (w : World), (callFunc f args).run Try.prog w = .ok (.enter f args) w) ∧ ¬ S b ∧ (∀ g, S g → g < w.heap.size) ∧
  ∀ w1, (∀ g, S g → w1.heap[g]? = w.heap[g]?) → ∀ L, valid L = true → Calls Try.prog f (p.push (.agg (arr (pad L))) ++ c) w1 fun e w2 => e = .returned (.bool (K L)) ∧ Below w1.heap.size w1 w2
theorem IsKb.kept {b : Nat} {w w' : World} {v : Value} {K : List Int → Bool} (h : IsKb b w v K) (k : Kept b w w') : IsKb b w' v K := by
  obtain ⟨f, p, c, S, rfl, he, hb, hS, hh⟩ := h
  exact ⟨f, p, c, S, rfl, he, hb, fun g hg => Nat.lt_of_lt_of_le (hS g hg) k.2, fun w1 h1 => hh w1 fun g hg => (h1 g hg).trans (k.1 g (hS g hg) fun e => hb (e ▸ hg))⟩
theorem IsKb.isK {b : Nat} {w : World} {v : Value} {K : List Int → Bool} (h : IsKb b w v K) : IsK w v K := by
  obtain ⟨f, p, c, S, rfl, he, hb, hS, hh⟩ := h
  exact ⟨f, p, c, rfl, he, fun w1 h1 => hh w1 fun g hg => h1.block g (hS g hg)⟩

theorem eachLeaves_any (m r : Int) (hr : 1 ≤ r ∧ r < m) (hm : m ≤ 100) (w : World) :
    Calls Try.prog 60 #[.int .i64 m, .int .i64 r] w fun e w' => ∃ v, e = .returned v ∧ (∀ b, b < w.heap.size ∨ w'.heap.size ≤ b → IsKb b w' v (kRem m r)) ∧ Below w.heap.size w w' := by
  have hmf : ∀ (fn : Fn) (first cap : Array Value) (w : World), (Instr.makeFunc fn first cap).run Try.prog w = .ok (.func fn first cap) w := fun _ _ _ _ => rfl
  go_enter Try.func60, Try.ntmps60
  go_wp2
  go_ret
  refine ⟨_, rfl, fun b hb => ⟨_, _, _, fun g => g = w.heap.size ∨ g = w.heap.size + 1, rfl, enters_of Try.func74 (by kernel_rfl) rfl, by simp at hb; omega, fun g hg => by simp; omega, fun w1 h1 L hv => ?_⟩, ((Below.refl _ _).alloc (Nat.le_refl _) _).alloc (by simp) _⟩
  have k1 : Blk w1 w.heap.size 3 #[.int .i64 m] := (h1 _ (.inl rfl)).trans ((Blk.new w 3 #[.int .i64 m]).alloc (.cells #[.int .i64 r] 3))
  have k2 : Blk w1 (w.heap.size + 1) 3 #[.int .i64 r] := (h1 _ (.inr rfl)).trans (by have := Blk.new (w.alloc (.cells #[.int .i64 m] 3)) 3 #[.int .i64 r]; rw [World.size_alloc] at this; exact this)
  have := remK_any m r hr hm w.heap.size (w.heap.size + 1) L hv w1 k1 k2
  simpa using this

theorem eachFallsBy_any (m r : Int) (hr : 0 ≤ r ∧ r ≤ 100) (hm : 0 ≤ m ∧ m ≤ 100) (w : World) :
    Calls Try.prog 61 #[.int .i64 m, .int .i64 r] w fun e w' => ∃ v, e = .returned v ∧ (∀ b, b < w.heap.size ∨ w'.heap.size ≤ b → IsKb b w' v (kFall m r)) ∧ Below w.heap.size w w' := by
  have hmf : ∀ (fn : Fn) (first cap : Array Value) (w : World), (Instr.makeFunc fn first cap).run Try.prog w = .ok (.func fn first cap) w := fun _ _ _ _ => rfl
  go_enter Try.func61, Try.ntmps61
  go_wp2
  go_ret
  refine ⟨_, rfl, fun b hb => ⟨_, _, _, fun g => g = w.heap.size ∨ g = w.heap.size + 1, rfl, enters_of Try.func75 (by kernel_rfl) rfl, by simp at hb; omega, fun g hg => by simp; omega, fun w1 h1 L hv => ?_⟩, ((Below.refl _ _).alloc (Nat.le_refl _) _).alloc (by simp) _⟩
  have k1 : Blk w1 w.heap.size 3 #[.int .i64 m] := (h1 _ (.inl rfl)).trans ((Blk.new w 3 #[.int .i64 m]).alloc (.cells #[.int .i64 r] 3))
  have k2 : Blk w1 (w.heap.size + 1) 3 #[.int .i64 r] := (h1 _ (.inr rfl)).trans (by have := Blk.new (w.alloc (.cells #[.int .i64 m] 3)) 3 #[.int .i64 r]; rw [World.size_alloc] at this; exact this)
  have := fallK_any m r hm hr w.heap.size (w.heap.size + 1) L hv w1 k1 k2
  simpa using this

theorem noneComes_any (m : Nat) (hm : 2 ≤ m ∧ m ≤ 16) (w : World) :
    Calls Try.prog 64 #[.int .i64 (m : Int)] w fun e w' => ∃ v, e = .returned v ∧ (∀ b, b < w.heap.size ∨ w'.heap.size ≤ b → IsKb b w' v (kNone m)) ∧ Below w.heap.size w w' := by
  have hmf : ∀ (fn : Fn) (first cap : Array Value) (w : World), (Instr.makeFunc fn first cap).run Try.prog w = .ok (.func fn first cap) w := fun _ _ _ _ => rfl
  go_enter Try.func64, Try.ntmps64
  go_wp2
  go_ret
  refine ⟨_, rfl, fun b hb => ⟨_, _, _, fun g => g = w.heap.size, rfl, enters_of Try.func79 (by kernel_rfl) rfl, by simp at hb; omega, fun g hg => by simp; omega, fun w1 h1 L hv => ?_⟩, (Below.refl _ _).alloc (Nat.le_refl _) _⟩
  have k1 : Blk w1 w.heap.size 3 #[.int .i64 (m : Int)] := (h1 _ rfl).trans (Blk.new w 3 #[.int .i64 (m : Int)])
  have := noneK_any m hm w.heap.size L hv w1 k1
  simpa using this

theorem both_any (v1 v2 : Value) (K1 K2 : List Int → Bool) (b : Nat) (w : World) (hb : b < w.heap.size) (h1 : IsKb b w v1 K1) (h2 : IsKb b w v2 K2) :
    Calls Try.prog 63 #[v1, v2] w fun e w' => ∃ v, e = .returned v ∧ IsKb b w' v (fun L => K1 L && K2 L) ∧ Below w.heap.size w w' := by
  have hmf : ∀ (fn : Fn) (first cap : Array Value) (w : World), (Instr.makeFunc fn first cap).run Try.prog w = .ok (.func fn first cap) w := fun _ _ _ _ => rfl
  obtain ⟨f1, p1, c1, S1, rfl, he1, hb1, hS1, hh1⟩ := h1
  obtain ⟨f2, p2, c2, S2, rfl, he2, hb2, hS2, hh2⟩ := h2
  go_enter Try.func63, Try.ntmps63
  go_wp2
  go_ret
  refine ⟨_, rfl, ⟨_, _, _, fun g => g = w.heap.size ∨ g = w.heap.size + 1 ∨ S1 g ∨ S2 g, rfl, enters_of Try.func78 (by kernel_rfl) rfl, ?_, ?_, fun w1 h1 L hv => ?_⟩, ((Below.refl _ _).alloc (Nat.le_refl _) _).alloc (by simp) _⟩
  · rintro (h | h | h | h)
    · omega
    · omega
    · exact hb1 h
    · exact hb2 h
  · intro g hg
    simp
    rcases hg with h | h | h | h
    · omega
    · omega
    · have := hS1 g h; omega
    · have := hS2 g h; omega
  · have hst : ∀ g, g < w.heap.size → ((w.alloc (.cells #[.func (.func f1) p1 c1] 47)).alloc (.cells #[.func (.func f2) p2 c2] 47)).heap[g]? = w.heap[g]? := fun g hg =>
      (Below.heap_alloc _ _ g (by simp; omega)).trans (Below.heap_alloc _ _ g hg)
    have k1 : Blk w1 w.heap.size 47 #[.func (.func f1) p1 c1] := (h1 _ (.inl rfl)).trans ((Blk.new w 47 #[.func (.func f1) p1 c1]).alloc (.cells #[.func (.func f2) p2 c2] 47))
    have k2 : Blk w1 (w.heap.size + 1) 47 #[.func (.func f2) p2 c2] := (h1 _ (.inr (.inl rfl))).trans (by have := Blk.new (w.alloc (.cells #[.func (.func f1) p1 c1] 47)) 47 #[.func (.func f2) p2 c2]; rw [World.size_alloc] at this; exact this)
    have i1 : IsK w1 (.func (.func f1) p1 c1) K1 := ⟨f1, p1, c1, rfl, he1, fun w2 hw2 => hh1 w2 fun g hg => ((hw2.block g (by rcases Nat.lt_or_ge g w1.heap.size with h | h; exact h; exact absurd (h1 g (.inr (.inr (.inl hg)))) (by rw [Array.getElem?_eq_none h, hst g (hS1 g hg), Array.getElem?_eq_getElem (hS1 g hg)]; simp))).trans (h1 g (.inr (.inr (.inl hg))))).trans (hst g (hS1 g hg))⟩
    have i2 : IsK w1 (.func (.func f2) p2 c2) K2 := ⟨f2, p2, c2, rfl, he2, fun w2 hw2 => hh2 w2 fun g hg => ((hw2.block g (by rcases Nat.lt_or_ge g w1.heap.size with h | h; exact h; exact absurd (h1 g (.inr (.inr (.inr hg)))) (by rw [Array.getElem?_eq_none h, hst g (hS2 g hg), Array.getElem?_eq_getElem (hS2 g hg)]; simp))).trans (h1 g (.inr (.inr (.inr hg))))).trans (hst g (hS2 g hg))⟩
    have := bothK_any w.heap.size (w.heap.size + 1) _ _ K1 K2 L hv w1 k1 k2 i1 i2
    simpa using this
theorem selfKb (b : Nat) (w : World) : IsKb b w (.func (.func 62) #[] #[]) kSelf :=
  ⟨_, _, _, fun _ => False, rfl, enters_of Try.func62 (by kernel_rfl) rfl, id, fun _ h => h.elim, fun w1 _ L hv => by have := selfK_any L hv w1; simpa using this⟩
theorem noOneKb (b : Nat) (w : World) : IsKb b w (.func (.func 65) #[] #[]) kNoOne :=
  ⟨_, _, _, fun _ => False, rfl, enters_of Try.func65 (by kernel_rfl) rfl, id, fun _ h => h.elim, fun w1 _ L hv => by have := noOneK_any L hv w1; simpa using this⟩

/-- how a function's value reads: as itself -/
def rdF (v : Value) : Option (DataW Value × List MemPlace) := some (.held v, [])
/-- block b is a map of at most n entries by names: f tells what stands at a name -/
def KM (w : World) (b n : Nat) (f : List UInt8 → Option Value) : Prop := ∃ D : DataW Value, w.ownsMap Try.prog 9 rdF b n D ∧
  ∀ l : List UInt8, (f l = none → has D (.string l) = false) ∧ (∀ v, f l = some v → has D (.string l) = true ∧ ∀ z, D.atKey (.string l) z = .held v)
def upd (f : List UInt8 → Option Value) (k : List UInt8) (v : Value) (l : List UInt8) : Option Value := if l = k then some v else f l
theorem T_law : Keyed Try.prog 9 := string_keyed Try.underlying9
theorem KM.made (w : World) : KM (w.alloc (.map #[] 0)) w.heap.size 0 (fun _ => none) :=
  ⟨.map [], World.ownsMap_made w _ _ _, fun l => ⟨fun _ => rfl, fun v h => by cases h⟩⟩
theorem KM.below {w w' : World} {b n : Nat} {f : List UInt8 → Option Value} (h : KM w b n f) (hb : Below w.heap.size w w') : KM w' b n f := by
  obtain ⟨D, hD, hf⟩ := h
  exact ⟨D, hD.kept (row := none) ⟨hb.os, hb.tape, hb.output, hb.size, fun g hg _ => hb.block g hg⟩ (by simp), hf⟩
theorem KM.lt {w : World} {b n : Nat} {f : List UInt8 → Option Value} (h : KM w b n f) : b < w.heap.size := by
  obtain ⟨D, hD, hf⟩ := h
  exact hD.lt
theorem KM.put {w : World} {b n : Nat} {f : List UInt8 → Option Value} (h : KM w b n f) (hn : n < maxLen) (s : ByteArray) (hs : s.size ≤ maxLen) (u : Value) :
    ∃ w', (Instr.mapUpdate 49 (.map (some b)) (.string s) u).run Try.prog w = .ok () w' ∧ KM w' b (n + 1) (upd f s.data.toList u) ∧ w.grownBy w' (some b) := by
  obtain ⟨D, hD, hf⟩ := h
  have hk := keyOf_string_mk (P := Try.prog) Try.underlying9 hs
  obtain ⟨w', h1, h2, h3⟩ := hD.update T_law Try.underlying49 hn hk (d := .held u) (ps := []) rfl
  have hkl : WideAt.IsKeyLit (.string s.data.toList) := T_law.key hk
  refine ⟨w', h1, ⟨_, h2, fun l => ?_⟩, h3⟩
  unfold upd
  by_cases e : l = s.data.toList
  · subst e
    rw [if_pos rfl]
    refine ⟨fun h => (by cases h), fun v hv => ?_⟩
    injection hv with hv
    subst hv
    exact ⟨Maps.has_put_same hD.isMap hkl _, fun z => Maps.atKey_put_same hD.isMap hkl _ z⟩
  · have hne : (Lit.string l) ≠ (Lit.string s.data.toList) := fun h => e (by injection h)
    rw [if_neg e]
    exact ⟨fun h => (Maps.has_put_other hne _).trans ((hf l).1 h), fun v hv => ⟨(Maps.has_put_other hne _).trans ((hf l).2 v hv).1, fun z => (Maps.atKey_put_other hne _ z).trans (((hf l).2 v hv).2 z)⟩⟩
theorem wpList_insert_km (w : World) {ops : Array Oper} {rest : List Oper} {o : Oper} {a : Act} {Q : Exit → Act → World → Prop} (hg : o.guard = none) (m x v : Operand) (hop : o.op = Op.insert 49 m x v)
    (b n : Nat) (f : List UInt8 → Option Value) (hm : a.eval m = .map (some b)) (hkm : KM w b n f) (hn : n < maxLen) (s : ByteArray) (hs : s.size ≤ maxLen) (hx : a.eval x = .string s) (u : Value) (hv : a.eval v = u)
    (hK : ∀ w', KM w' b (n + 1) (upd f s.data.toList u) → w.grownBy w' (some b) → wpList Try.prog ops Q rest (a.put o.dst undef) w') : wpList Try.prog ops Q (o :: rest) a w := by
  refine wpList_plain hg fun K' hK' => ?_
  obtain ⟨w', hrun, r1, r2⟩ := hkm.put hn s hs u
  unfold Oper.wp
  simp [execOp, hop, hm, hx, hv, hrun, Result.andThen]
  exact hK' _ _ (hK w' r1 r2)
theorem T_zeroK (w : World) : (zeroValue 47).run Try.prog w = .ok .nilFunc w := by kernel_rfl
theorem KM.look {w : World} {b n : Nat} {f : List UInt8 → Option Value} (h : KM w b n f) (s : ByteArray) (hs : s.size ≤ maxLen) {v : Value} (hv : f s.data.toList = some v) :
    (Instr.lookup 49 (.map (some b)) (.string s) false).run Try.prog w = .ok v w := by
  obtain ⟨D, hD, hf⟩ := h
  obtain ⟨v', ps, hrun, hr⟩ := hD.lookup T_law Try.underlying49 (T_zeroK w) (zd := .held .nilFunc) (zp := []) rfl (keyOf_string_mk (P := Try.prog) Try.underlying9 hs)
  rw [((hf _).2 v hv).2 _] at hr
  unfold rdF at hr
  injection hr with hr
  injection hr with hr _
  injection hr with hr
  rw [hrun, hr]
theorem KM.look_ok {w : World} {b n : Nat} {f : List UInt8 → Option Value} (h : KM w b n f) (s : ByteArray) (hs : s.size ≤ maxLen) {v : Value} (hv : f s.data.toList = some v) :
    (Instr.lookup 49 (.map (some b)) (.string s) true).run Try.prog w = .ok (.tuple #[v, .bool true]) w := by
  obtain ⟨D, hD, hf⟩ := h
  obtain ⟨v', ps, hrun, hr⟩ := hD.look_ok T_law Try.underlying49 (T_zeroK w) (zd := .held .nilFunc) (zp := []) rfl (keyOf_string_mk (P := Try.prog) Try.underlying9 hs)
  rw [((hf _).2 v hv).2 _] at hr
  rw [((hf _).2 v hv).1] at hrun
  unfold rdF at hr
  injection hr with hr
  injection hr with hr _
  injection hr with hr
  rw [hrun, hr]
theorem KM.look_no {w : World} {b n : Nat} {f : List UInt8 → Option Value} (h : KM w b n f) (s : ByteArray) (hs : s.size ≤ maxLen) (hv : f s.data.toList = none) :
    (Instr.lookup 49 (.map (some b)) (.string s) true).run Try.prog w = .ok (.tuple #[.nilFunc, .bool false]) w := by
  obtain ⟨D, hD, hf⟩ := h
  obtain ⟨v', ps, hrun, hr⟩ := hD.look_ok T_law Try.underlying49 (T_zeroK w) (zd := .held .nilFunc) (zp := []) rfl (keyOf_string_mk (P := Try.prog) Try.underlying9 hs)
  rw [Maps.atKey_of_not_has ((hf _).1 hv)] at hr
  rw [(hf _).1 hv] at hrun
  unfold rdF at hr
  injection hr with hr
  injection hr with hr _
  injection hr with hr
  rw [hrun, hr]

/-- the kind of a name -/
def kindOf (l : List UInt8) : Option (List Int → Bool) :=
  if l = [115, 105, 120] then some (kRem 6 1)
  else if l = [115, 99, 104, 117, 114] then some (kFall 3 4)
  else if l = [102, 105, 118, 101, 116, 119, 111] then some (kRem 5 2)
  else if l = [103, 97, 112, 111, 110, 101] then some (fun L => kFall 2 2 L && kNoOne L)
  else if l = [102, 105, 118, 101] then some (kRem 5 1)
  else if l = [103, 97, 112] then some (kFall 2 2)
  else if l = [116, 119, 105, 99, 101] then some (kNone 3)
  else if l = [110, 111, 116, 116, 104, 114, 101, 101] then some (kRem 3 1)
  else if l = [100, 105, 115, 116, 105, 110, 99, 116, 111, 100, 100] then some (fun L => kRem 2 1 L && kFall 1 1 L)
  else if l = [115, 101, 108, 102] then some (kSelf)
  else if l = [100, 105, 115, 116, 105, 110, 99, 116] then some (kFall 1 1)
  else if l = [111, 100, 100] then some (kRem 2 1)
  else none
theorem kindOf_odd : kindOf [111, 100, 100] = some (kRem 2 1) := by unfold kindOf; simp
theorem kindOf_distinct : kindOf [100, 105, 115, 116, 105, 110, 99, 116] = some (kFall 1 1) := by unfold kindOf; simp
theorem kindOf_self : kindOf [115, 101, 108, 102] = some (kSelf) := by unfold kindOf; simp
theorem kindOf_distinctodd : kindOf [100, 105, 115, 116, 105, 110, 99, 116, 111, 100, 100] = some (fun L => kRem 2 1 L && kFall 1 1 L) := by unfold kindOf; simp
theorem kindOf_notthree : kindOf [110, 111, 116, 116, 104, 114, 101, 101] = some (kRem 3 1) := by unfold kindOf; simp
theorem kindOf_twice : kindOf [116, 119, 105, 99, 101] = some (kNone 3) := by unfold kindOf; simp
theorem kindOf_gap : kindOf [103, 97, 112] = some (kFall 2 2) := by unfold kindOf; simp
theorem kindOf_five : kindOf [102, 105, 118, 101] = some (kRem 5 1) := by unfold kindOf; simp
theorem kindOf_gapone : kindOf [103, 97, 112, 111, 110, 101] = some (fun L => kFall 2 2 L && kNoOne L) := by unfold kindOf; simp
theorem kindOf_fivetwo : kindOf [102, 105, 118, 101, 116, 119, 111] = some (kRem 5 2) := by unfold kindOf; simp
theorem kindOf_schur : kindOf [115, 99, 104, 117, 114] = some (kFall 3 4) := by unfold kindOf; simp
theorem kindOf_six : kindOf [115, 105, 120] = some (kRem 6 1) := by unfold kindOf; simp
/-- what stands in the map of kinds -/
def KTab (w : World) (b : Nat) (f : List UInt8 → Option Value) : Prop := ∀ l, match kindOf l with
  | some K => ∃ v, f l = some v ∧ IsKb b w v K
  | none => f l = none

set_option maxRecDepth 8000 in
set_option maxHeartbeats 8000000 in
theorem kindsByName_any (w : World) :
    Calls Try.prog 33 #[] w fun e w' => ∃ b n f, e = .returned (.map (some b)) ∧ KM w' b n f ∧ KTab w' b f ∧ Below w.heap.size w w' := by
  have hmm := fun w : World => run_makeMap (P := Try.prog) 49 w
  go_enter Try.func33, Try.ntmps33
  go_wp2_with (first
    | (refine wpList_insert_km _ rfl (.tmp 7) (.const (.string ⟨#[115, 105, 120]⟩)) (.tmp 21) rfl w3.heap.size 11 _ rfl km22 (by decide) ⟨#[115, 105, 120]⟩ (by decide) rfl v22 rfl ?_; intro w23 km23 hg23; have s22 : Kept w3.heap.size w22 w23 := .ofGrown hg23; have bl23 := below_chg bl22 (Nat.le_refl _) bl3.size hg23)
    | (go_at_call 60; refine (eachLeaves_any 6 1 (by omega) (by omega) _).mono ?_; rintro e w22 ⟨v22, rfl, ik22, hb22⟩; have s21 : Kept w3.heap.size w21 w22 := .ofBelow hb22; have bl22 := bl21.trans (hb22.mono bl21.size); have km22 := km21.below hb22; have k22 := ik22 w3.heap.size (.inl km21.lt))
    | (refine wpList_insert_km _ rfl (.tmp 7) (.const (.string ⟨#[115, 99, 104, 117, 114]⟩)) (.tmp 20) rfl w3.heap.size 10 _ rfl km20 (by decide) ⟨#[115, 99, 104, 117, 114]⟩ (by decide) rfl v20 rfl ?_; intro w21 km21 hg21; have s20 : Kept w3.heap.size w20 w21 := .ofGrown hg21; have bl21 := below_chg bl20 (Nat.le_refl _) bl3.size hg21)
    | (go_at_call 61; refine (eachFallsBy_any 3 4 (by omega) (by omega) _).mono ?_; rintro e w20 ⟨v20, rfl, ik20, hb20⟩; have s19 : Kept w3.heap.size w19 w20 := .ofBelow hb20; have bl20 := bl19.trans (hb20.mono bl19.size); have km20 := km19.below hb20; have k20 := ik20 w3.heap.size (.inl km19.lt))
    | (refine wpList_insert_km _ rfl (.tmp 7) (.const (.string ⟨#[102, 105, 118, 101, 116, 119, 111]⟩)) (.tmp 19) rfl w3.heap.size 9 _ rfl km18 (by decide) ⟨#[102, 105, 118, 101, 116, 119, 111]⟩ (by decide) rfl v18 rfl ?_; intro w19 km19 hg19; have s18 : Kept w3.heap.size w18 w19 := .ofGrown hg19; have bl19 := below_chg bl18 (Nat.le_refl _) bl3.size hg19)
    | (go_at_call 60; refine (eachLeaves_any 5 2 (by omega) (by omega) _).mono ?_; rintro e w18 ⟨v18, rfl, ik18, hb18⟩; have s17 : Kept w3.heap.size w17 w18 := .ofBelow hb18; have bl18 := bl17.trans (hb18.mono bl17.size); have km18 := km17.below hb18; have k18 := ik18 w3.heap.size (.inl km17.lt))
    | (refine wpList_insert_km _ rfl (.tmp 7) (.const (.string ⟨#[103, 97, 112, 111, 110, 101]⟩)) (.tmp 18) rfl w3.heap.size 8 _ rfl km16 (by decide) ⟨#[103, 97, 112, 111, 110, 101]⟩ (by decide) rfl v16 rfl ?_; intro w17 km17 hg17; have s16 : Kept w3.heap.size w16 w17 := .ofGrown hg17; have bl17 := below_chg bl16 (Nat.le_refl _) bl3.size hg17)
    | (go_at_call 63; refine (both_any v3 _ (kFall 2 2) kNoOne w3.heap.size _ km15.lt (k3.kept (s3.trans (s4.trans (s5.trans (s6.trans (s7.trans (s8.trans (s9.trans (s10.trans (s11.trans (s12.trans (s13.trans (s14))))))))))))) (noOneKb _ _)).mono ?_; rintro e w16 ⟨v16, rfl, ik16, hb16⟩; have s15 : Kept w3.heap.size w15 w16 := .ofBelow hb16; have bl16 := bl15.trans (hb16.mono bl15.size); have km16 := km15.below hb16; have k16 := ik16)
    | (refine wpList_insert_km _ rfl (.tmp 7) (.const (.string ⟨#[102, 105, 118, 101]⟩)) (.tmp 16) rfl w3.heap.size 7 _ rfl km14 (by decide) ⟨#[102, 105, 118, 101]⟩ (by decide) rfl v14 rfl ?_; intro w15 km15 hg15; have s14 : Kept w3.heap.size w14 w15 := .ofGrown hg15; have bl15 := below_chg bl14 (Nat.le_refl _) bl3.size hg15)
    | (go_at_call 60; refine (eachLeaves_any 5 1 (by omega) (by omega) _).mono ?_; rintro e w14 ⟨v14, rfl, ik14, hb14⟩; have s13 : Kept w3.heap.size w13 w14 := .ofBelow hb14; have bl14 := bl13.trans (hb14.mono bl13.size); have km14 := km13.below hb14; have k14 := ik14 w3.heap.size (.inl km13.lt))
    | (refine wpList_insert_km _ rfl (.tmp 7) (.const (.string ⟨#[103, 97, 112]⟩)) (.tmp 15) rfl w3.heap.size 6 _ rfl km12 (by decide) ⟨#[103, 97, 112]⟩ (by decide) rfl v3 rfl ?_; intro w13 km13 hg13; have s12 : Kept w3.heap.size w12 w13 := .ofGrown hg13; have bl13 := below_chg bl12 (Nat.le_refl _) bl3.size hg13)
    | (refine wpList_insert_km _ rfl (.tmp 7) (.const (.string ⟨#[116, 119, 105, 99, 101]⟩)) (.tmp 14) rfl w3.heap.size 5 _ rfl km11 (by decide) ⟨#[116, 119, 105, 99, 101]⟩ (by decide) rfl v11 rfl ?_; intro w12 km12 hg12; have s11 : Kept w3.heap.size w11 w12 := .ofGrown hg12; have bl12 := below_chg bl11 (Nat.le_refl _) bl3.size hg12)
    | (go_at_call 64; refine (noneComes_any 3 (by omega) _).mono ?_; rintro e w11 ⟨v11, rfl, ik11, hb11⟩; have s10 : Kept w3.heap.size w10 w11 := .ofBelow hb11; have bl11 := bl10.trans (hb11.mono bl10.size); have km11 := km10.below hb11; have k11 := ik11 w3.heap.size (.inl km10.lt))
    | (refine wpList_insert_km _ rfl (.tmp 7) (.const (.string ⟨#[110, 111, 116, 116, 104, 114, 101, 101]⟩)) (.tmp 13) rfl w3.heap.size 4 _ rfl km9 (by decide) ⟨#[110, 111, 116, 116, 104, 114, 101, 101]⟩ (by decide) rfl v9 rfl ?_; intro w10 km10 hg10; have s9 : Kept w3.heap.size w9 w10 := .ofGrown hg10; have bl10 := below_chg bl9 (Nat.le_refl _) bl3.size hg10)
    | (go_at_call 60; refine (eachLeaves_any 3 1 (by omega) (by omega) _).mono ?_; rintro e w9 ⟨v9, rfl, ik9, hb9⟩; have s8 : Kept w3.heap.size w8 w9 := .ofBelow hb9; have bl9 := bl8.trans (hb9.mono bl8.size); have km9 := km8.below hb9; have k9 := ik9 w3.heap.size (.inl km8.lt))
    | (refine wpList_insert_km _ rfl (.tmp 7) (.const (.string ⟨#[100, 105, 115, 116, 105, 110, 99, 116, 111, 100, 100]⟩)) (.tmp 12) rfl w3.heap.size 3 _ rfl km7 (by decide) ⟨#[100, 105, 115, 116, 105, 110, 99, 116, 111, 100, 100]⟩ (by decide) rfl v7 rfl ?_; intro w8 km8 hg8; have s7 : Kept w3.heap.size w7 w8 := .ofGrown hg8; have bl8 := below_chg bl7 (Nat.le_refl _) bl3.size hg8)
    | (go_at_call 63; refine (both_any v1 v2 (kRem 2 1) (kFall 1 1) w3.heap.size _ km6.lt (k1.kept (s1.trans (s2.trans (s3.trans (s4.trans (s5)))))) (k2.kept (s2.trans (s3.trans (s4.trans (s5)))))).mono ?_; rintro e w7 ⟨v7, rfl, ik7, hb7⟩; have s6 : Kept w3.heap.size w6 w7 := .ofBelow hb7; have bl7 := bl6.trans (hb7.mono bl6.size); have km7 := km6.below hb7; have k7 := ik7)
    | (refine wpList_insert_km _ rfl (.tmp 7) (.const (.string ⟨#[115, 101, 108, 102]⟩)) (.func 62) rfl w3.heap.size 2 _ rfl km5 (by decide) ⟨#[115, 101, 108, 102]⟩ (by decide) rfl (.func (.func 62) #[] #[]) rfl ?_; intro w6 km6 hg6; have s5 : Kept w3.heap.size w5 w6 := .ofGrown hg6; have bl6 := below_chg bl5 (Nat.le_refl _) bl3.size hg6)
    | (refine wpList_insert_km _ rfl (.tmp 7) (.const (.string ⟨#[100, 105, 115, 116, 105, 110, 99, 116]⟩)) (.tmp 9) rfl w3.heap.size 1 _ rfl km4 (by decide) ⟨#[100, 105, 115, 116, 105, 110, 99, 116]⟩ (by decide) rfl v2 rfl ?_; intro w5 km5 hg5; have s4 : Kept w3.heap.size w4 w5 := .ofGrown hg5; have bl5 := below_chg bl4 (Nat.le_refl _) bl3.size hg5)
    | (refine wpList_insert_km _ rfl (.tmp 7) (.const (.string ⟨#[111, 100, 100]⟩)) (.tmp 8) rfl w3.heap.size 0 _ rfl km3 (by decide) ⟨#[111, 100, 100]⟩ (by decide) rfl v1 rfl ?_; intro w4 km4 hg4; have s3 : Kept w3.heap.size (w3.alloc (.map #[] 0)) w4 := .ofGrown hg4; have bl4 := below_chg bl3a (Nat.le_refl _) bl3.size hg4)
    | (go_at_call 61; refine (eachFallsBy_any 2 2 (by omega) (by omega) _).mono ?_; rintro e w3 ⟨v3, rfl, ik3, hb3⟩; have bl3 := bl2.trans (hb3.mono bl2.size); have s1 : Kept w3.heap.size w1 w2 := .ofBelow hb2; have s3a : Kept w3.heap.size w3 (w3.alloc (.map #[] 0)) := .ofBelow ((Below.refl _ _).alloc (Nat.le_refl _) _); have s2 : Kept w3.heap.size w2 (w3.alloc (.map #[] 0)) := (Kept.ofBelow hb3).trans s3a; have km3 := KM.made w3; have bl3a := bl3.alloc bl3.size (.map #[] 0); have k1 := ik1 w3.heap.size (.inr (Nat.le_trans hb2.size hb3.size)); have k2 := ik2 w3.heap.size (.inr hb3.size); have k3 := (ik3 w3.heap.size (.inr (Nat.le_refl _))).kept s3a)
    | (go_at_call 61; refine (eachFallsBy_any 1 1 (by omega) (by omega) _).mono ?_; rintro e w2 ⟨v2, rfl, ik2, hb2⟩; have bl2 := bl1.trans (hb2.mono bl1.size))
    | (go_at_call 60; refine (eachLeaves_any 2 1 (by omega) (by omega) _).mono ?_; rintro e w1 ⟨v1, rfl, ik1, hb1⟩; have bl1 : Below w.heap.size w w1 := hb1))
  go_ret
  refine ⟨_, rfl, _, _, km23, fun l => ?_, bl23⟩
  by_cases e0 : l = [115, 105, 120]
  · subst e0
    rw [kindOf_six]
    exact ⟨_, by simp [upd], k22.kept (s22)⟩
  by_cases e1 : l = [115, 99, 104, 117, 114]
  · subst e1
    rw [kindOf_schur]
    exact ⟨_, by simp [upd], k20.kept (s20.trans (s21.trans (s22)))⟩
  by_cases e2 : l = [102, 105, 118, 101, 116, 119, 111]
  · subst e2
    rw [kindOf_fivetwo]
    exact ⟨_, by simp [upd], k18.kept (s18.trans (s19.trans (s20.trans (s21.trans (s22)))))⟩
  by_cases e3 : l = [103, 97, 112, 111, 110, 101]
  · subst e3
    rw [kindOf_gapone]
    exact ⟨_, by simp [upd], k16.kept (s16.trans (s17.trans (s18.trans (s19.trans (s20.trans (s21.trans (s22)))))))⟩
  by_cases e4 : l = [102, 105, 118, 101]
  · subst e4
    rw [kindOf_five]
    exact ⟨_, by simp [upd], k14.kept (s14.trans (s15.trans (s16.trans (s17.trans (s18.trans (s19.trans (s20.trans (s21.trans (s22)))))))))⟩
  by_cases e5 : l = [103, 97, 112]
  · subst e5
    rw [kindOf_gap]
    exact ⟨_, by simp [upd], k3.kept (s3.trans (s4.trans (s5.trans (s6.trans (s7.trans (s8.trans (s9.trans (s10.trans (s11.trans (s12.trans (s13.trans (s14.trans (s15.trans (s16.trans (s17.trans (s18.trans (s19.trans (s20.trans (s21.trans (s22))))))))))))))))))))⟩
  by_cases e6 : l = [116, 119, 105, 99, 101]
  · subst e6
    rw [kindOf_twice]
    exact ⟨_, by simp [upd], k11.kept (s11.trans (s12.trans (s13.trans (s14.trans (s15.trans (s16.trans (s17.trans (s18.trans (s19.trans (s20.trans (s21.trans (s22))))))))))))⟩
  by_cases e7 : l = [110, 111, 116, 116, 104, 114, 101, 101]
  · subst e7
    rw [kindOf_notthree]
    exact ⟨_, by simp [upd], k9.kept (s9.trans (s10.trans (s11.trans (s12.trans (s13.trans (s14.trans (s15.trans (s16.trans (s17.trans (s18.trans (s19.trans (s20.trans (s21.trans (s22))))))))))))))⟩
  by_cases e8 : l = [100, 105, 115, 116, 105, 110, 99, 116, 111, 100, 100]
  · subst e8
    rw [kindOf_distinctodd]
    exact ⟨_, by simp [upd], k7.kept (s7.trans (s8.trans (s9.trans (s10.trans (s11.trans (s12.trans (s13.trans (s14.trans (s15.trans (s16.trans (s17.trans (s18.trans (s19.trans (s20.trans (s21.trans (s22))))))))))))))))⟩
  by_cases e9 : l = [115, 101, 108, 102]
  · subst e9
    rw [kindOf_self]
    exact ⟨_, by simp [upd], selfKb (w3.heap.size) _⟩
  by_cases e10 : l = [100, 105, 115, 116, 105, 110, 99, 116]
  · subst e10
    rw [kindOf_distinct]
    exact ⟨_, by simp [upd], k2.kept (s2.trans (s3.trans (s4.trans (s5.trans (s6.trans (s7.trans (s8.trans (s9.trans (s10.trans (s11.trans (s12.trans (s13.trans (s14.trans (s15.trans (s16.trans (s17.trans (s18.trans (s19.trans (s20.trans (s21.trans (s22)))))))))))))))))))))⟩
  by_cases e11 : l = [111, 100, 100]
  · subst e11
    rw [kindOf_odd]
    exact ⟨_, by simp [upd], k1.kept (s1.trans (s2.trans (s3.trans (s4.trans (s5.trans (s6.trans (s7.trans (s8.trans (s9.trans (s10.trans (s11.trans (s12.trans (s13.trans (s14.trans (s15.trans (s16.trans (s17.trans (s18.trans (s19.trans (s20.trans (s21.trans (s22))))))))))))))))))))))⟩
  have hn : kindOf l = none := by unfold kindOf; simp [e0, e1, e2, e3, e4, e5, e6, e7, e8, e9, e10, e11]
  rw [hn]
  simp [upd, e0, e1, e2, e3, e4, e5, e6, e7, e8, e9, e10, e11]
end Go.Proofs.Ytfcmfjhlmjnjiaa
