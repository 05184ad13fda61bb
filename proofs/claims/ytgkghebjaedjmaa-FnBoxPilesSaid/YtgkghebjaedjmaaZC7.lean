/-
  A region that draws its order, of whose first operations each yields the same value in every world of a kind, guarded ones among them: they may be carried out in their text's order. A region that draws its order: operations that leave the world as it is and yield the same values in every world of a kind may all come first; the others go in whatever order they come up. Slices of the call's own whose elements are rows of so many cells, each with memory of its own between two marks, no two of which overlap. What isn't in cells of some types has been kept. Words: piles in memory between two marks.
-/
import Derived.Test.YtgkghebjaedjmaaZC1
import Derived.Test.YtgkghebjaedjmaaZC2
import Derived.Test.YtgkghebjaedjmaaZC3
import Derived.Test.YtgkghebjaedjmaaZC4
import Derived.Test.YtgkghebjaedjmaaZC5
import Derived.Test.YtgkghebjaedjmaaZC6
import Derived.Orders
import Derived.OrdersIn
namespace Go.Proofs.Ytgkghebjaedjmaa
open Go.RowKit
set_option linter.unusedVariables false
/-- the slots that an operation looks at: its operands', and its guard's -/
def usesG (ops : Array Oper) (o : Oper) : List Nat :=
  (o.op.operands.toList.filterMap fun x => match x with | .tmp t => some t | _ => none) ++ (match o.guard with | none => [] | some (j, _) => ((ops[j]?).bind (·.dst)).toList)
/-- of the operations ahead of the one numbered z each edge leads back, each one that fills a slot that one of them looks at is waited for; whatever is numbered z or above waits for all of them -/
def regOkG (md : Region.Mode) (ops : Array Oper) (z : Nat) : Bool :=
  decide (z ≤ ops.size) &&
  (List.range ops.size).all fun i => match ops[i]? with
    | none => false
    | some o => (match o.op with | .defer _ => false | .select _ _ => false | _ => true) &&
      (if i < z then (o.after.toList.all fun e => !Region.binds md e || decide (e.on < i)) &&
        ((usesG ops o).all fun t => (List.range z).all fun j => match (ops[j]?).bind (·.dst) with
            | some d => !(d == t) || o.after.toList.any fun e => Region.binds md e && e.on == j
            | none => true)
      else if i = z then true else o.after.toList.any fun e => Region.binds md e && decide (z ≤ e.on) && decide (e.on < i))
/-- each operation ahead of the one numbered z is waited for by a later one, none above z -/
def regUpG (md : Region.Mode) (ops : Array Oper) (z : Nat) : Bool :=
  z == ops.size || (List.range z).all fun j => (List.range (z + 1)).any fun i => decide (j < i) && match ops[i]? with
    | none => false
    | some o => o.after.toList.any fun e => Region.binds md e && e.on == j
section
variable {P : Program} {md : Region.Mode} {ops : Array Oper} {Q : Exit → Act → World → Prop} {z : Nat} {S : World → Prop} {az : Act}
/-- the state is as the one at the end but for what isn't listed yet -/
def AgreeG (ops : Array Oper) (z : Nat) (az : Act) (listed : Array Bool) (a : Act) : Prop :=
  a.defers = az.defers ∧ a.tmps.size = az.tmps.size ∧ ∀ t, (∀ j, j < z → listed.getD j true = false → (ops[j]?).bind (·.dst) ≠ some t) → a.tmps[t]? = az.tmps[t]?
theorem AgreeG.slot {listed : Array Bool} {a : Act} {i : Nat} {o : Oper} (hok : regOkG md ops z = true) (hi : i < z) (ho : ops[i]? = some o) (hA : AgreeG ops z az listed a)
    (hp : ∀ e ∈ o.after, Region.binds md e = true → listed.getD e.on false = true) : ∀ t ∈ usesG ops o, a.tmps[t]? = az.tmps[t]? := by
  intro t ht
  unfold regOkG at hok
  simp only [Bool.and_eq_true, decide_eq_true_eq, List.all_eq_true, List.mem_range] at hok
  have h1 := hok.2 i (by omega)
  rw [ho] at h1
  simp only [hi, if_true, Bool.and_eq_true, List.all_eq_true, Array.mem_toList_iff] at h1
  have h2 := h1.2.2 t ht
  exact hA.2.2 t (fun j hj hu hd => by
      simp only [List.mem_range] at h2
      have h4 := h2 j hj
      rw [hd] at h4
      simp only [BEq.rfl, Bool.not_true, Bool.false_or, List.any_eq_true, Bool.and_eq_true, beq_iff_eq, Array.mem_toList_iff] at h4
      obtain ⟨e, he, hb, hej⟩ := h4
      have h5 := hp e he hb
      rw [hej] at h5
      rcases Nat.lt_or_ge j listed.size with h' | h'
      · simp [h'] at h5 hu; rw [hu] at h5; cases h5
      · simp [Array.getElem?_eq_none h'] at h5)
theorem AgreeG.eval {listed : Array Bool} {a : Act} {i : Nat} {o : Oper} (hok : regOkG md ops z = true) (hi : i < z) (ho : ops[i]? = some o) (hA : AgreeG ops z az listed a)
    (hp : ∀ e ∈ o.after, Region.binds md e = true → listed.getD e.on false = true) : ∀ x ∈ o.op.operands, a.eval x = az.eval x := by
  intro x hx
  cases x with
  | tmp t =>
    simp only [Act.eval]
    have h3 := hA.slot hok hi ho hp t (List.mem_append_left _ (List.mem_filterMap.2 ⟨.tmp t, by simpa using hx, rfl⟩))
    simp only [Array.getD_eq_getD_getElem?, h3]
  | const v => rfl
  | global g => rfl
  | func f => rfl
theorem AgreeG.wanted {listed : Array Bool} {a : Act} {i : Nat} {o : Oper} (hok : regOkG md ops z = true) (hi : i < z) (ho : ops[i]? = some o) (hA : AgreeG ops z az listed a)
    (hp : ∀ e ∈ o.after, Region.binds md e = true → listed.getD e.on false = true) : Region.wanted o (yielded ops a.tmps) = Region.wanted o (yielded ops az.tmps) := by
  have hs := hA.slot hok hi ho hp
  unfold Region.wanted
  cases hg : o.guard with
  | none => rfl
  | some g =>
    obtain ⟨j, b⟩ := g
    simp only
    have e : yielded ops a.tmps j = yielded ops az.tmps j := by
      unfold yielded
      cases hd : (ops[j]?).bind (·.dst) with
      | none => rfl
      | some d =>
        have h3 := hs d (List.mem_append_right _ (by simp [hg, hd]))
        simp only [Option.bind_some, h3]
    rw [e]
theorem AgreeG.put {listed : Array Bool} {a : Act} {i : Nat} {o : Oper} {v : Value} (hls : i < listed.size) (ho : ops[i]? = some o) (hA : AgreeG ops z az listed a) (hv : az.put o.dst v = az) :
    AgreeG ops z az (listed.setIfInBounds i true) (a.put o.dst v) := by
  refine ⟨?_, ?_, ?_⟩
  · rw [← hA.1]; cases o.dst <;> rfl
  · rw [← hA.2.1]; cases o.dst <;> simp [Act.put]
  · intro t ht
    have old : (o.dst ≠ some t) → a.tmps[t]? = az.tmps[t]? := fun hne => hA.2.2 t fun j hj hu hd => by
      by_cases hji : j = i
      · subst hji; rw [ho] at hd; exact hne hd
      · exact ht j hj (by rw [getD_set_ne true (Ne.symm hji)]; exact hu) hd
    cases hd : o.dst with
    | none => simp only [Act.put]; exact old (by rw [hd]; simp)
    | some d =>
      rw [hd] at hv
      simp only [Act.put] at hv ⊢
      by_cases hdt : d = t
      · subst hdt
        have h2 : (az.tmps.setIfInBounds d v)[d]? = az.tmps[d]? := by
          have := congrArg Act.tmps hv
          simp only at this
          rw [this]
        rw [← h2]
        rw [Array.getElem?_setIfInBounds, Array.getElem?_setIfInBounds, hA.2.1]
        simp
      · rw [Array.getElem?_setIfInBounds_ne hdt]
        exact old (by rw [hd]; simp; exact hdt)
theorem wp_agree {a : Act} {w : World} {o : Oper} {K : Act → World → Prop} (hsel : ∀ cs b, o.op ≠ .select cs b) (he : ∀ x ∈ o.op.operands, a.eval x = az.eval x)
    (hK : ∀ v w', az.put o.dst v = az → S w' → K (a.put o.dst v) w')
    (h : o.wp P az w (fun a' w' => a' = az ∧ S w') (fun _ _ _ => False)) : o.wp P a w K Q := by
  have e1 := execOp_congr (ρ := a.eval) (ρ' := az.eval) o hsel he
  unfold Oper.wp at *
  rw [e1]
  have hh := h
  clear h
  generalize (execOp az.eval o).run P w = r at *
  cases r with
  | ok x w' =>
    cases x <;> simp only [Oper.upon] at hh ⊢
    case value u => exact hK u w' hh.1 hh.2
    case skip => exact hK _ w' hh.1 hh.2
    case defer d =>
      have h1 := congrArg (fun a : Act => a.defers.length) hh.1
      have h2 : ∀ (b : Act) (dst : Option Tmp) (v : Value), (b.put dst v).defers = b.defers := fun b dst v => by cases dst <;> rfl
      simp only [h2, List.length_cons] at h1
      omega
    case enter f args =>
      refine Calls.mono hh fun e w'' he => ?_
      cases e with
      | returned u => exact hK u w'' he.1 he.2
      | panicked c => exact he.elim
      | outgrown => obtain ⟨_, _, hf⟩ := he; exact hf.elim
    case row row args => exact Rows.mono hh fun u w'' he => hK u w'' he.1 he.2
  | halt x w' =>
    cases x <;> simp only [Oper.upon] at hh ⊢
/-- the listed ones stay listed with all that they wait for -/
def DownG (md : Region.Mode) (ops : Array Oper) (z : Nat) (listed : Array Bool) : Prop :=
  ∀ i o, i < z → ops[i]? = some o → listed.getD i true = true → ∀ e ∈ o.after, Region.binds md e = true → listed.getD e.on false = true
theorem wpAny_fixed_go (hok : regOkG md ops z = true) (hup : regUpG md ops z = true) (listedz : Array Bool)
    (hz : ∀ j, listedz[j]? = if j < z then some true else if j < ops.size then some false else none)
    (hstep : ∀ i o, i < z → ops[i]? = some o → ∀ w, S w → if Region.wanted o (yielded ops az.tmps) = true then o.wp P az w (fun a' w' => a' = az ∧ S w') (fun _ _ _ => False) else az.put o.dst undef = az)
    (hrest : ∀ w, S w → wpAny P md ops Q (ops.size - z) listedz az w) :
    ∀ (k : Nat) (listed : Array Bool) (a : Act) (w : World), listed.size = ops.size → ((List.range z).filter fun j => !listed.getD j true).length = k →
      (∀ i, z ≤ i → i < ops.size → listed.getD i true = false) → DownG md ops z listed → AgreeG ops z az listed a → S w → wpAny P md ops Q (ops.size - z + k) listed a w := by
  have hok' := hok
  unfold regOkG at hok'
  simp only [Bool.and_eq_true, decide_eq_true_eq, List.all_eq_true, List.mem_range] at hok'
  obtain ⟨hzs, hall⟩ := hok'
  have gd : ∀ (l : Array Bool) (j : Nat), l.getD j false = true → l.getD j true = true := fun l j h => by
    rcases Nat.lt_or_ge j l.size with h' | h'
    · simp [h'] at h ⊢; exact h
    · simp [Array.getElem?_eq_none h'] at h
  -- whoever comes up is ahead of z while one of these isn't listed
  have below : ∀ (listed : Array Bool) (i : Nat), (∀ i, z ≤ i → i < ops.size → listed.getD i true = false) → DownG md ops z listed → (∃ j, j < z ∧ listed.getD j true = false) → i ∈ Region.ready md ops listed → i < z := by
    intro listed i htop hdown ⟨j, hj, hjf⟩ hi
    obtain ⟨hu, o, ho, hp⟩ := mem_ready.1 hi
    have his : i < ops.size := (Array.getElem?_eq_some_iff.1 ho).1
    by_cases hiz : i < z
    · exact hiz
    exfalso
    have hup' := hup
    unfold regUpG at hup'
    rw [Bool.or_eq_true] at hup'
    replace hup' := hup'.resolve_left (by simp; omega)
    simp only [List.all_eq_true, List.mem_range, List.any_eq_true, Bool.and_eq_true, decide_eq_true_eq] at hup'
    by_cases hie : i = z
    · subst hie
      have key : ∀ m j, i - j = m → j < i → listed.getD j false = true := by
        intro m
        induction m using Nat.strongRecOn with
        | ind m ih =>
          intro j hm hj
          obtain ⟨i', hi', hji, hE⟩ := hup' j hj
          cases ho' : ops[i']? with
          | none => rw [ho'] at hE; cases hE
          | some o' =>
            rw [ho'] at hE
            simp only [List.any_eq_true, Bool.and_eq_true, beq_iff_eq, Array.mem_toList_iff] at hE
            obtain ⟨e, he, hb, hej⟩ := hE
            by_cases h0 : i' = i
            · subst h0
              rw [ho] at ho'; injection ho' with ho'; subst ho'
              rw [← hej]; exact hp e he hb
            · have h1 := ih (i - i') (by omega) i' rfl (by omega)
              rw [← hej]; exact hdown i' o' (by omega) ho' (gd _ _ h1) e he hb
      have := gd _ _ (key _ j rfl hj)
      rw [hjf] at this; cases this
    · have h1 := hall i his
      rw [ho] at h1
      simp only [hiz, if_false, hie, Bool.and_eq_true, List.any_eq_true, decide_eq_true_eq, Array.mem_toList_iff] at h1
      obtain ⟨-, e, he, ⟨hb, hze⟩, hei⟩ := h1
      have h2 := gd _ _ (hp e he hb)
      rw [htop e.on hze (by omega)] at h2
      cases h2
  intro k
  induction k with
  | zero =>
    intro listed a w hls hk htop hdown hA hS
    have hl : ∀ j, j < z → listed.getD j true = true := fun j hj => by
      have h1 := List.length_eq_zero_iff.1 hk
      have h2 := List.filter_eq_nil_iff.1 h1 j (List.mem_range.2 hj)
      simpa using h2
    have e1 : listed = listedz := by
      apply Array.ext_getElem?
      intro j
      rw [hz j]
      by_cases hj : j < z
      · have := hl j hj
        rw [if_pos hj]
        have h' : j < listed.size := by omega
        simp [h'] at this ⊢; exact this
      · rw [if_neg hj]
        by_cases hj2 : j < ops.size
        · have := htop j (by omega) hj2
          rw [if_pos hj2]
          have h' : j < listed.size := by omega
          simp [h'] at this ⊢; exact this
        · rw [if_neg hj2]; exact Array.getElem?_eq_none (by omega)
    have e2 : a = az := by
      obtain ⟨h1, h2, h3⟩ := hA
      cases a; cases az
      simp only at h1 h2 h3
      congr
      exact Array.ext_getElem? fun t => h3 t fun j hj hu => by rw [hl j hj] at hu; cases hu
    subst e1 e2
    exact hrest w hS
  | succ k ih =>
    intro listed a w hls hk htop hdown hA hS
    obtain ⟨j0, hj0⟩ : ∃ j, j ∈ (List.range z).filter fun j => !listed.getD j true := List.exists_mem_of_length_pos (by omega)
    have hex : ∃ j, j < z ∧ listed.getD j true = false := by
      rw [List.mem_filter, List.mem_range] at hj0
      exact ⟨j0, hj0.1, by simpa using hj0.2⟩
    -- somebody comes up: the first that isn't listed
    have hne : Region.ready md ops listed ≠ [] := by
      intro h0
      have key : ∀ j, j < z → listed.getD j true = true := by
        intro j
        induction j using Nat.strongRecOn with
        | ind j ihj =>
          intro hj
          by_cases hu : listed.getD j true = true
          · exact hu
          exfalso
          have ho : ∃ o, ops[j]? = some o := ⟨ops[j]'(by omega), Array.getElem?_eq_getElem (by omega)⟩
          obtain ⟨o, ho⟩ := ho
          have h1 := hall j (by omega)
          rw [ho] at h1
          simp only [hj, if_true, Bool.and_eq_true, List.all_eq_true, Array.mem_toList_iff] at h1
          have hm : j ∈ Region.ready md ops listed := mem_ready.2 ⟨by simpa using hu, o, ho, fun e he hb => by
            have h2 := h1.2.1 e he
            simp only [hb, Bool.not_true, Bool.false_or, decide_eq_true_eq] at h2
            have h3 := ihj e.on h2 (by omega)
            have h' : e.on < listed.size := by omega
            simp [h'] at h3 ⊢; exact h3⟩
          rw [h0] at hm
          cases hm
      obtain ⟨j, hj, hf⟩ := hex
      rw [key j hj] at hf; cases hf
    rw [show ops.size - z + (k + 1) = (ops.size - z + k) + 1 from by omega]
    refine wpAny_all rfl hne fun i hi => ?_
    have hiz := below listed i htop hdown hex hi
    obtain ⟨hu, o, ho, hp⟩ := mem_ready.1 hi
    have h1 := hall i (by omega)
    rw [ho] at h1
    simp only [hiz, if_true, Bool.and_eq_true] at h1
    have hsel : ∀ cs b, o.op ≠ .select cs b := fun c b e => by simp [e] at h1
    have hst := hstep i o hiz ho w hS
    unfold wpOp
    rw [ho]
    simp only [hA.wanted hok hiz ho hp]
    suffices hnext : ∀ v w', az.put o.dst v = az → S w' → wpAny P md ops Q (ops.size - z + k) (listed.setIfInBounds i true) (a.put o.dst v) w' by
      by_cases hw : Region.wanted o (yielded ops az.tmps) = true
      · rw [if_pos hw] at hst ⊢
        exact .inl (wp_agree hsel (hA.eval hok hiz ho hp) hnext hst)
      · rw [if_neg hw] at hst ⊢
        exact hnext _ _ hst hS
    intro v w' hv hS'
    refine ih _ _ _ (by simpa using hls) ?_ ?_ ?_ (hA.put (by omega) ho hv) hS'
    · have hsplit : ((List.range z).filter fun j => !listed.getD j true).length = ((List.range z).filter fun j => !(listed.setIfInBounds i true).getD j true).length + 1 := by
        have hcount : ∀ (L : List Nat), L.Nodup → i ∈ L → (L.filter fun j => !listed.getD j true).length = (L.filter fun j => !(listed.setIfInBounds i true).getD j true).length + 1 := by
          intro L
          induction L with
          | nil => intro _ h; cases h
          | cons x L ihL =>
            intro hnd hm
            have hnd' := List.nodup_cons.1 hnd
            by_cases hx : x = i
            · subst hx
              have e1 : (x :: L).filter (fun j => !listed.getD j true) = x :: L.filter (fun j => !listed.getD j true) := List.filter_cons_of_pos (by simp only [hu]; rfl)
              have e2 : (listed.setIfInBounds x true).getD x true = true := by
                have h' : x < listed.size := by omega
                simp [h']
              have e3 : (x :: L).filter (fun j => !(listed.setIfInBounds x true).getD j true) = L.filter (fun j => !(listed.setIfInBounds x true).getD j true) := List.filter_cons_of_neg (by simp only [e2]; simp)
              rw [e1, e3, List.length_cons]
              congr 2
              refine List.filter_congr fun j hj => ?_
              rw [getD_set_ne true (fun e => hnd'.1 (by rw [e]; exact hj))]
            · have hm' : i ∈ L := (List.mem_cons.1 hm).resolve_left (Ne.symm hx)
              have := ihL hnd'.2 hm'
              have e2 : (listed.setIfInBounds i true).getD x true = listed.getD x true := getD_set_ne true (Ne.symm hx)
              by_cases hxu : listed.getD x true = true
              · rw [List.filter_cons_of_neg (by simp only [hxu]; simp), List.filter_cons_of_neg (by simp only [e2, hxu]; simp)]; exact this
              · have hxf : listed.getD x true = false := by simpa using hxu
                rw [List.filter_cons_of_pos (by simp only [hxf]; rfl), List.filter_cons_of_pos (by simp only [e2, hxf]; rfl), List.length_cons, List.length_cons]
                omega
        exact hcount _ List.nodup_range (List.mem_range.2 hiz)
      omega
    · intro j hj hjs
      rw [getD_set_ne true (by omega)]; exact htop j hj hjs
    · intro j o' hj ho' hl e he hb
      by_cases hji : j = i
      · subst hji
        rw [ho] at ho'; injection ho' with ho'; subst ho'
        exact getD_set_true (hp e he hb)
      · rw [getD_set_ne true (Ne.symm hji)] at hl
        exact getD_set_true (hdown j o' hj ho' hl e he hb)
/-- the first z operations, each of which yields its value in whatever world of the kind S; then the rest -/
theorem wpAny_fixed (z : Nat) (S : World → Prop) (az : Act) (hok : regOkG md ops z = true) (hup : regUpG md ops z = true) (a : Act) (w : World) (hA : AgreeG ops z az (Array.replicate ops.size false) a) (hS : S w)
    (listedz : Array Bool) (hz : listedz = Array.replicate z true ++ Array.replicate (ops.size - z) false)
    (hstep : ∀ i o, i < z → ops[i]? = some o → ∀ w, S w → if Region.wanted o (yielded ops az.tmps) = true then o.wp P az w (fun a' w' => a' = az ∧ S w') (fun _ _ _ => False) else az.put o.dst undef = az)
    (hrest : ∀ w, S w → wpAny P md ops Q (ops.size - z) listedz az w) : wpAny P md ops Q ops.size (Array.replicate ops.size false) a w := by
  have hzs : z ≤ ops.size := by
    unfold regOkG at hok
    simp only [Bool.and_eq_true, decide_eq_true_eq] at hok
    exact hok.1
  have h := wpAny_fixed_go (P := P) (Q := Q) (S := S) (az := az) hok hup listedz (fun j => by
    rw [hz, Array.getElem?_append]
    simp only [Array.size_replicate, Array.getElem?_replicate]
    by_cases hj : j < z
    · simp [hj]
    · simp only [hj, if_false]
      by_cases h2 : j < ops.size
      · rw [if_pos (by omega), if_pos h2]
      · rw [if_neg (by omega), if_neg h2]) hstep hrest z (Array.replicate ops.size false) a w (by simp) (by
      rw [List.filter_eq_self.2]
      · simp
      · intro j hj
        have hj := List.mem_range.1 hj
        have h' : j < ops.size := by omega
        simp [h']) (fun i _ h2 => by simp [h2]) (fun i o hi ho hl => by
        have h' : i < ops.size := by omega
        simp [h'] at hl) hA hS
  rwa [show ops.size - z + z = ops.size from by omega] at h
/-- the values of the operations from the one numbered i on, put one after another -/
def putsOfG (ops : Array Oper) : Nat → List Value → Act → Act
  | _, [], a => a
  | i, v :: vs, a => putsOfG ops (i + 1) vs (a.put ((ops[i]?).bind (·.dst)) v)
theorem putsOfG_spec (ops : Array Oper) : ∀ (vs : List Value) (i : Nat) (a : Act), (putsOfG ops i vs a).defers = a.defers ∧ (putsOfG ops i vs a).tmps.size = a.tmps.size ∧ ∀ t, (∀ j, i ≤ j → j < i + vs.length → (ops[j]?).bind (·.dst) ≠ some t) → (putsOfG ops i vs a).tmps[t]? = a.tmps[t]? := by
  intro vs
  induction vs with
  | nil => intro i a; exact ⟨rfl, rfl, fun _ _ => rfl⟩
  | cons v vs ih =>
    intro i a
    obtain ⟨h1, h2, h3⟩ := ih (i + 1) (a.put ((ops[i]?).bind (·.dst)) v)
    unfold putsOfG
    refine ⟨?_, ?_, ?_⟩
    · rw [h1]; cases (ops[i]?).bind (·.dst) <;> rfl
    · rw [h2]; cases (ops[i]?).bind (·.dst) <;> simp [Act.put]
    · intro t ht
      rw [h3 t (fun j hj hj2 => ht j (by omega) (by simp; omega))]
      have h0 := ht i (Nat.le_refl _) (by simp)
      cases hd : (ops[i]?).bind (·.dst) with
      | none => rfl
      | some d =>
        rw [hd] at h0
        simp only [Act.put]
        exact Array.getElem?_setIfInBounds_ne (fun e => h0 (by rw [e]))
def StepsG (P : Program) (ops : Array Oper) (S : World → Prop) (az : Act) (L : List Nat) : Prop :=
  ∀ i ∈ L, ∀ o, ops[i]? = some o → ∀ w, S w → if Region.wanted o (yielded ops az.tmps) = true then o.wp P az w (fun a' w' => a' = az ∧ S w') (fun _ _ _ => False) else az.put o.dst undef = az
theorem StepsG.nil : StepsG P ops S az [] := fun _ h => by cases h
theorem StepsG.one {i : Nat} {L : List Nat} {o : Oper} (ho : ops[i]? = some o) (h : ∀ w, S w → if Region.wanted o (yielded ops az.tmps) = true then o.wp P az w (fun a' w' => a' = az ∧ S w') (fun _ _ _ => False) else az.put o.dst undef = az) (hs : StepsG P ops S az L) : StepsG P ops S az (i :: L) := by
  intro j hj o' ho'
  rcases List.mem_cons.1 hj with rfl | hj
  · rw [ho] at ho'; injection ho' with ho'; subst ho'; exact h
  · exact hs j hj o' ho'
theorem StepsG.cons {i : Nat} {L : List Nat} {o : Oper} (ho : ops[i]? = some o) (hw : Region.wanted o (yielded ops az.tmps) = true) (h : ∀ w, S w → o.wp P az w (fun a' w' => a' = az ∧ S w') (fun _ _ _ => False)) (hs : StepsG P ops S az L) : StepsG P ops S az (i :: L) :=
  .one ho (fun w hS => by rw [if_pos hw]; exact h w hS) hs
theorem StepsG.skip {i : Nat} {L : List Nat} {o : Oper} (ho : ops[i]? = some o) (hw : Region.wanted o (yielded ops az.tmps) = false) (h : az.put o.dst undef = az) (hs : StepsG P ops S az L) : StepsG P ops S az (i :: L) :=
  .one ho (fun w hS => by rw [if_neg (by rw [hw]; simp)]; exact h) hs
/-- the first operations, each of which yields its value in whatever world of the kind S (vs: the values); then the rest -/
theorem wpAny_vals (zl : List Nat) (vs : List Value) (S : World → Prop) (a az : Act) (w : World) (haz : putsOfG ops 0 vs a = az) (hok : regOkG md ops vs.length = true) (hup : regUpG md ops vs.length = true) (hS : S w)
    (listedz : Array Bool) (hz : listedz = Array.replicate vs.length true ++ Array.replicate (ops.size - vs.length) false)
    (hzl : List.range vs.length = zl) (hstep : StepsG P ops S az zl)
    (hrest : ∀ w, S w → wpAny P md ops Q (ops.size - vs.length) listedz az w) : wpAny P md ops Q ops.size (Array.replicate ops.size false) a w := by
  subst hzl
  obtain ⟨h1, h2, h3⟩ := putsOfG_spec ops vs 0 a
  rw [haz] at h1 h2 h3
  have hzs : vs.length ≤ ops.size := by
    unfold regOkG at hok
    simp only [Bool.and_eq_true, decide_eq_true_eq] at hok
    exact hok.1
  refine wpAny_fixed vs.length S az hok hup a w ⟨h1.symm, h2.symm, fun t ht => (h3 t fun j _ hj => ht j (by omega) ?_).symm⟩ hS listedz hz (fun i o hi => hstep i (List.mem_range.2 hi) o) hrest
  have h' : j < ops.size := by omega
  simp [h']
/-- a drawn region, all of whose operations yield their values (vs) in whatever world of the kind S -/
theorem wp_region_vals {id : Nat} {a : Act} {w : World} (zl : List Nat) (vs : List Value) (S : World → Prop) (az : Act) (hm : P.follows .mixedOrders = true) (hS : ∀ y, Dr w y → S y) (haz : putsOfG ops 0 vs a = az) (hlen : vs.length = ops.size)
    (hok : regOkG .any ops vs.length = true) (hup : regUpG .any ops vs.length = true) (hzl : List.range vs.length = zl) (hstep : StepsG P ops S az zl) (hrest : ∀ w', S w' → Q .normal az w') : (Code.region id ops true).wp P Q a w := by
  refine wp_region_any hm ?_
  refine wpAny_vals zl vs S a az _ haz hok hup (hS _ (Dr.n w 1)) _ rfl hzl hstep fun w' hw => ?_
  rw [hlen, Nat.sub_self]
  refine ⟨?_, hrest w' hw⟩
  unfold Region.ready
  rw [List.filter_eq_nil_iff]
  intro i hi
  have h := List.mem_range.1 hi
  simp [h]
/-- the same, the last ones by hand -/
theorem wp_region_vals_rest {id : Nat} {a : Act} {w : World} (zl : List Nat) (vs : List Value) (S : World → Prop) (az : Act) (hm : P.follows .mixedOrders = true) (hS : ∀ y, Dr w y → S y) (haz : putsOfG ops 0 vs a = az)
    (hok : regOkG .any ops vs.length = true) (hup : regUpG .any ops vs.length = true) (hzl : List.range vs.length = zl) (hstep : StepsG P ops S az zl) (hrest : ∀ w', S w' → wpAny P .any ops Q (ops.size - vs.length) (Array.replicate vs.length true ++ Array.replicate (ops.size - vs.length) false) az w') : (Code.region id ops true).wp P Q a w := by
  refine wp_region_any hm ?_
  exact wpAny_vals zl vs S a az _ haz hok hup (hS _ (Dr.n w 1)) _ rfl hzl hstep hrest
end
end Go.Proofs.Ytgkghebjaedjmaa
namespace Go.Proofs.Ytgkghebjaedjmaa
open Go.RowKit
set_option linter.unusedVariables false
/-- edges lead back; a slot that one of fx fills is waited for by whoever looks at it; what fx looks at, no other fills; nobody else fills a slot of fx -/
def okS (md : Region.Mode) (ops : Array Oper) (fx : List Nat) : Bool :=
  (List.range ops.size).all fun i => match ops[i]? with
    | none => false
    | some o => (match o.op with | .defer _ => false | .select _ _ => false | _ => true) &&
      ((o.after.toList.all fun e => !Region.binds md e || decide (e.on < i)) &&
      (((usesG ops o).all fun t => fx.all fun j => match (ops[j]?).bind (·.dst) with
            | some d => !(d == t) || o.after.toList.any fun e => Region.binds md e && e.on == j
            | none => true) &&
      (if fx.contains i then
         ((usesG ops o).all fun t => (List.range ops.size).all fun c => fx.contains c || !((ops[c]?).bind (·.dst) == some t)) && (List.range ops.size).all fun c => fx.contains c || o.dst == none || !((ops[c]?).bind (·.dst) == o.dst)
       else true)))
/-- whoever isn't the last is waited for by a later one; the last is none of fx -/
def upS (md : Region.Mode) (ops : Array Oper) (fx : List Nat) : Bool :=
  decide (0 < ops.size) && (!fx.contains (ops.size - 1) && (List.range (ops.size - 1)).all fun j => (List.range ops.size).any fun i => decide (j < i) && match ops[i]? with
    | none => false
    | some o => o.after.toList.any fun e => Region.binds md e && e.on == j)
section
variable {F : Fence} {n : Nat} {P : Program} {md : Region.Mode} {ops : Array Oper} {Q : Exit → Act → World → Prop} {S : World → Prop} {fx : List Nat}
/-- one operation, whatever comes up -/
def stepS (F : Fence) (n : Nat) (P : Program) (ops : Array Oper) (i : Nat) (K : Act → World → Prop) (a : Act) (w : World) : Prop :=
  ∀ o, ops[i]? = some o → if Region.wanted o (yielded ops a.tmps) = true then o.wpIn F n P a w K (fun _ _ _ => False) else (∀ f, o.about P w a.eval = some f → F.fn f) ∧ K (a.put o.dst undef) w
/-- all orders of what isn't listed, the world of the kind S all the while -/
def wpAnyS (F : Fence) (n : Nat) (P : Program) (md : Region.Mode) (ops : Array Oper) (Q : Exit → Act → World → Prop) (S : World → Prop) : Nat → Array Bool → Act → World → Prop
  | 0, listed, a, w => Q .normal a w
  | fuel + 1, listed, a, w => ∀ i ∈ Region.ready md ops listed, stepS F n P ops i (fun a' w' => a'.defers = a.defers ∧ (fuel ≠ 0 → S w') ∧ wpAnyS F n P md ops Q S fuel (listed.setIfInBounds i true) a' w') a w
theorem wpIn_swap {a az : Act} {w : World} {o : Oper} {K1 K2 : Act → World → Prop} (hd : ∀ c, o.op ≠ .defer c) (hsel : ∀ cs b, o.op ≠ .select cs b) (he : ∀ x ∈ o.op.operands, a.eval x = az.eval x)
    (hdef : ∀ a' w', K1 a' w' → a'.defers = az.defers) (hK : ∀ v w', K1 (az.put o.dst v) w' → K2 (a.put o.dst v) w')
    (h : o.wpIn F n P az w K1 (fun _ _ _ => False)) : o.wpIn F n P a w K2 Q := by
  have e1 := execOp_congr (ρ := a.eval) (ρ' := az.eval) o hsel he
  have e2 := about_congr (P := P) o w he
  unfold Oper.wpIn at *
  rw [Oper.semAt_eq _ _ _ hd] at *
  rw [e1, e2]
  refine ⟨h.1, ?_⟩
  have hh := h.2
  clear h
  generalize (execOp az.eval o).run P w = r at *
  cases r with
  | ok x w' =>
    cases x <;> simp only [Oper.uponIn] at hh ⊢
    case value u => exact hK u w' hh
    case skip => exact hK _ w' hh
    case defer d =>
      have h1 := congrArg List.length (hdef _ _ hh)
      have h2 : ∀ (b : Act) (dst : Option Tmp) (v : Value), (b.put dst v).defers = b.defers := fun b dst v => by cases dst <;> rfl
      simp only [h2, List.length_cons] at h1
      omega
    case enter f args =>
      refine ⟨hh.1, CallsIn.mono hh.2 fun e w'' he => ?_⟩
      cases e with
      | returned u => exact hK u w'' he
      | panicked c => exact he.elim
      | outgrown => obtain ⟨_, _, hf⟩ := he; exact hf.elim
    case row row args => exact ⟨hh.1, RowsIn.mono hh.2 fun u w'' he => hK u w'' he⟩
    case round l f tmps assign body =>
      refine ⟨hh.1, RoundIn.mono hh.2 fun e w'' he => ?_⟩
      cases e with
      | returned u => exact hK u w'' he
      | panicked c => exact he.elim
      | outgrown => obtain ⟨_, _, hf⟩ := he; exact hf.elim
  | halt x w' =>
    cases x <;> simp only [Oper.uponIn] at hh ⊢
def AgreeS (ops : Array Oper) (fx : List Nat) (az : Act) (listed : Array Bool) (a : Act) : Prop :=
  a.defers = az.defers ∧ a.tmps.size = az.tmps.size ∧ ∀ t, (∀ j ∈ fx, j < ops.size → listed.getD j true = false → (ops[j]?).bind (·.dst) ≠ some t) → a.tmps[t]? = az.tmps[t]?
def AgreeC (ops : Array Oper) (fx : List Nat) (az0 az : Act) : Prop :=
  az.defers = az0.defers ∧ az.tmps.size = az0.tmps.size ∧ ∀ t, (∀ c, c < ops.size → fx.contains c = false → (ops[c]?).bind (·.dst) ≠ some t) → az.tmps[t]? = az0.tmps[t]?
theorem wanted_of {a b : Act} {o : Oper} (h : ∀ t ∈ usesG ops o, a.tmps[t]? = b.tmps[t]?) : Region.wanted o (yielded ops a.tmps) = Region.wanted o (yielded ops b.tmps) := by
  unfold Region.wanted
  cases hg : o.guard with
  | none => rfl
  | some g =>
    obtain ⟨j, x⟩ := g
    simp only
    have e : yielded ops a.tmps j = yielded ops b.tmps j := by
      unfold yielded
      cases hd : (ops[j]?).bind (·.dst) with
      | none => rfl
      | some d =>
        have h3 := h d (List.mem_append_right _ (by simp [hg, hd]))
        simp only [Option.bind_some, h3]
    rw [e]
theorem eval_of {a b : Act} {o : Oper} (h : ∀ t ∈ usesG ops o, a.tmps[t]? = b.tmps[t]?) : ∀ x ∈ o.op.operands, a.eval x = b.eval x := by
  intro x hx
  cases x with
  | tmp t =>
    simp only [Act.eval]
    have h3 := h t (List.mem_append_left _ (List.mem_filterMap.2 ⟨.tmp t, by simpa using hx, rfl⟩))
    simp only [Array.getD_eq_getD_getElem?, h3]
  | const v => rfl
  | global g => rfl
  | func f => rfl
theorem put_defers (a : Act) (d : Option Tmp) (v : Value) : (a.put d v).defers = a.defers := by cases d <;> rfl
theorem put_size (a : Act) (d : Option Tmp) (v : Value) : (a.put d v).tmps.size = a.tmps.size := by cases d <;> simp [Act.put]
theorem put_other (a : Act) (d : Option Tmp) (v : Value) (t : Nat) (h : d ≠ some t) : (a.put d v).tmps[t]? = a.tmps[t]? := by
  cases d with
  | none => rfl
  | some d => simp only [Act.put]; exact Array.getElem?_setIfInBounds_ne (fun e => h (by rw [e]))
theorem put_at (a b : Act) (t : Nat) (v : Value) (h : a.tmps.size = b.tmps.size) : (a.put (some t) v).tmps[t]? = (b.put (some t) v).tmps[t]? := by
  simp only [Act.put]
  rw [Array.getElem?_setIfInBounds, Array.getElem?_setIfInBounds, h]
  simp
theorem unl_len {N : Nat} {listed : Array Bool} {i : Nat} (hs : listed.size = N) (hi : i < N) (hu : listed.getD i true = false) : ((List.range N).filter fun j => !listed.getD j true).length = ((List.range N).filter fun j => !(listed.setIfInBounds i true).getD j true).length + 1 := by
  have hcount : ∀ (L : List Nat), L.Nodup → i ∈ L → (L.filter fun j => !listed.getD j true).length = (L.filter fun j => !(listed.setIfInBounds i true).getD j true).length + 1 := by
    intro L
    induction L with
    | nil => intro _ h; cases h
    | cons x L ihL =>
      intro hnd hm
      have hnd' := List.nodup_cons.1 hnd
      by_cases hx : x = i
      · subst hx
        have e1 : (x :: L).filter (fun j => !listed.getD j true) = x :: L.filter (fun j => !listed.getD j true) := List.filter_cons_of_pos (by simp only [hu]; rfl)
        have e2 : (listed.setIfInBounds x true).getD x true = true := by
          have h' : x < listed.size := by omega
          simp [h']
        have e3 : (x :: L).filter (fun j => !(listed.setIfInBounds x true).getD j true) = L.filter (fun j => !(listed.setIfInBounds x true).getD j true) := List.filter_cons_of_neg (by simp only [e2]; simp)
        rw [e1, e3, List.length_cons]
        congr 2
        refine List.filter_congr fun j hj => ?_
        rw [getD_set_ne true (fun e => hnd'.1 (by rw [e]; exact hj))]
      · have hm' : i ∈ L := (List.mem_cons.1 hm).resolve_left (Ne.symm hx)
        have := ihL hnd'.2 hm'
        have e2 : (listed.setIfInBounds i true).getD x true = listed.getD x true := getD_set_ne true (Ne.symm hx)
        by_cases hxu : listed.getD x true = true
        · rw [List.filter_cons_of_neg (by simp only [hxu]; simp), List.filter_cons_of_neg (by simp only [e2, hxu]; simp)]; exact this
        · have hxf : listed.getD x true = false := by simpa using hxu
          rw [List.filter_cons_of_pos (by simp only [hxf]; rfl), List.filter_cons_of_pos (by simp only [e2, hxf]; rfl), List.length_cons, List.length_cons]
          omega
  exact hcount _ List.nodup_range (List.mem_range.2 hi)
/-- the listed ones stay listed with all that they wait for -/
def DownS (md : Region.Mode) (ops : Array Oper) (listed : Array Bool) : Prop :=
  ∀ i o, ops[i]? = some o → listed.getD i true = true → ∀ e ∈ o.after, Region.binds md e = true → listed.getD e.on false = true
theorem upS_all {listed : Array Bool} (hup : upS md ops fx = true) (hs : listed.size = ops.size) (hd : DownS md ops listed) (hch : ∀ j, j < ops.size → fx.contains j = false → listed.getD j true = true) : ∀ j, j < ops.size → listed.getD j true = true := by
  unfold upS at hup
  simp only [Bool.and_eq_true, List.all_eq_true, List.mem_range, List.any_eq_true, decide_eq_true_eq, Bool.not_eq_true'] at hup
  obtain ⟨h0, hl, hall⟩ := hup
  have gd2 : ∀ (l : Array Bool) (j : Nat), l.getD j false = true → l.getD j true = true := fun l j h => by
    rcases Nat.lt_or_ge j l.size with h' | h'
    · simp [h'] at h ⊢; exact h
    · simp [Array.getElem?_eq_none h'] at h
  have key : ∀ m j, ops.size - j = m → j < ops.size → listed.getD j true = true := by
    intro m
    induction m using Nat.strongRecOn with
    | ind m ih =>
      intro j hm hj
      by_cases hjl : j = ops.size - 1
      · subst hjl; exact hch _ hj hl
      · obtain ⟨i, hi, hji, hE⟩ := hall j (by omega)
        cases ho : ops[i]? with
        | none => rw [ho] at hE; cases hE
        | some o =>
          rw [ho] at hE
          simp only [List.any_eq_true, Bool.and_eq_true, beq_iff_eq, Array.mem_toList_iff] at hE
          obtain ⟨e, he, hb, hej⟩ := hE
          have h1 := hd i o ho (ih (ops.size - i) (by omega) i rfl hi) e he hb
          rw [hej] at h1
          exact gd2 _ _ h1
  exact fun j hj => key _ j rfl hj
theorem anyS_go {az0 : Act} (hok : okS md ops fx = true) (hup : upS md ops fx = true)
    (hfix : ∀ i ∈ fx, ∀ o, ops[i]? = some o → ∀ w, S w → if Region.wanted o (yielded ops az0.tmps) = true then o.wpIn F n P az0 w (fun a' w' => a' = az0 ∧ w' = w) (fun _ _ _ => False) else (∀ f, o.about P w az0.eval = some f → F.fn f) ∧ az0.put o.dst undef = az0) :
    ∀ (m k : Nat) (listed listed' : Array Bool) (a az : Act) (w : World), listed.size = ops.size → listed'.size = ops.size →
      (∀ j, j < ops.size → listed'.getD j true = (listed.getD j true || fx.contains j)) →
      ((List.range ops.size).filter fun j => !listed.getD j true).length = m → ((List.range ops.size).filter fun j => !listed'.getD j true).length = k →
      DownS md ops listed → AgreeS ops fx az listed a → AgreeC ops fx az0 az → (m ≠ 0 → S w) → wpAnyS F n P md ops Q S k listed' az w → wpAnyIn F n P md ops Q m listed a w := by
  have hok' := hok
  unfold okS at hok'
  simp only [List.all_eq_true, List.mem_range] at hok'
  intro m
  induction m with
  | zero =>
    intro k listed listed' a az w hs hs' hl hm hk hD hA hC hS hW
    have hall : ∀ j, j < ops.size → listed.getD j true = true := fun j hj => by
      have h1 := List.length_eq_zero_iff.1 hm
      have h2 := List.filter_eq_nil_iff.1 h1 j (List.mem_range.2 hj)
      simpa using h2
    have hk0 : k = 0 := by
      rw [← hk, List.length_eq_zero_iff, List.filter_eq_nil_iff]
      intro j hj
      rw [hl j (List.mem_range.1 hj), hall j (List.mem_range.1 hj)]
      simp
    subst hk0
    have e2 : a = az := by
      obtain ⟨h1, h2, h3⟩ := hA
      cases a; cases az
      simp only at h1 h2 h3
      congr
      exact Array.ext_getElem? fun t => h3 t fun j _ hj hu => by rw [hall j hj] at hu; cases hu
    subst e2
    refine ⟨?_, hW⟩
    rw [List.eq_nil_iff_forall_not_mem]
    intro j hj
    obtain ⟨hu, o, ho, _⟩ := mem_ready.1 hj
    rw [hall j (Array.getElem?_eq_some_iff.1 ho).1] at hu
    cases hu
  | succ m ih =>
    intro k listed listed' a az w hs hs' hl hm hk hD hA hC hS hW
    have hS := hS (by omega)
    have gd : ∀ (l : Array Bool) (j : Nat), l.size = ops.size → j < ops.size → l.getD j true = true → l.getD j false = true := fun l j h1 h2 h => by
      have h' : j < l.size := by omega
      simp [h'] at h ⊢; exact h
    have gd2 : ∀ (l : Array Bool) (j : Nat), l.getD j false = true → l.getD j true = true := fun l j h => by
      rcases Nat.lt_or_ge j l.size with h' | h'
      · simp [h'] at h ⊢; exact h
      · simp [Array.getElem?_eq_none h'] at h
    have hne : Region.ready md ops listed ≠ [] := by
      intro h0
      have key : ∀ j, j < ops.size → listed.getD j true = true := by
        intro j
        induction j using Nat.strongRecOn with
        | ind j ihj =>
          intro hj
          by_cases hu : listed.getD j true = true
          · exact hu
          exfalso
          obtain ⟨o, ho⟩ : ∃ o, ops[j]? = some o := ⟨ops[j]'hj, Array.getElem?_eq_getElem hj⟩
          have h1 := hok' j hj
          rw [ho] at h1
          simp only [Bool.and_eq_true, List.all_eq_true, Array.mem_toList_iff] at h1
          have hmr : j ∈ Region.ready md ops listed := mem_ready.2 ⟨by simpa using hu, o, ho, fun e he hb => by
            have h2 := h1.2.1 e he
            simp only [hb, Bool.not_true, Bool.false_or, decide_eq_true_eq] at h2
            exact gd _ _ hs (by omega) (ihj e.on h2 (by omega))⟩
          rw [h0] at hmr
          cases hmr
      have h2 : ((List.range ops.size).filter fun j => !listed.getD j true) = [] := List.filter_eq_nil_iff.2 fun j hj => by rw [key j (List.mem_range.1 hj)]; simp
      rw [h2] at hm
      simp at hm
    refine wpAnyIn_all rfl hne fun i hi => ?_
    obtain ⟨hu, o, ho, hp⟩ := mem_ready.1 hi
    have his : i < ops.size := (Array.getElem?_eq_some_iff.1 ho).1
    have h1 := hok' i his
    rw [ho] at h1
    simp only [Bool.and_eq_true] at h1
    obtain ⟨hkind, hback, huse, hfx⟩ := h1
    have hdef : ∀ c, o.op ≠ .defer c := fun c e => by simp [e] at hkind
    have hsel : ∀ cs b, o.op ≠ .select cs b := fun c b e => by simp [e] at hkind
    have hm' := unl_len hs his hu
    rw [hm] at hm'
    have hD2 : DownS md ops (listed.setIfInBounds i true) := by
      intro j o' ho' hl e he hb
      by_cases hji : j = i
      · subst hji
        rw [ho] at ho'; injection ho' with ho'; subst ho'
        exact getD_set_true (hp e he hb)
      · rw [getD_set_ne true (Ne.symm hji)] at hl
        exact getD_set_true (hD j o' ho' hl e he hb)
    -- what it looks at is as it will be
    have hloc : ∀ t ∈ usesG ops o, a.tmps[t]? = az.tmps[t]? := fun t ht => hA.2.2 t fun j hj hjs hjl hd => by
      simp only [List.all_eq_true] at huse
      have h4 := huse t ht j hj
      rw [hd] at h4
      simp only [BEq.rfl, Bool.not_true, Bool.false_or, List.any_eq_true, Bool.and_eq_true, beq_iff_eq, Array.mem_toList_iff] at h4
      obtain ⟨e, he, hb, hej⟩ := h4
      have h5 := gd2 _ _ (hp e he hb)
      rw [hej, hjl] at h5
      cases h5
    unfold wpOpIn
    rw [ho]
    simp only
    by_cases hif : fx.contains i = true
    · -- one of those that leave the world as it is
      rw [if_pos hif] at hfx
      simp only [Bool.and_eq_true, List.all_eq_true, List.mem_range, Bool.or_eq_true, Bool.not_eq_true', beq_eq_false_iff_ne, ne_eq, beq_iff_eq] at hfx
      have hloc0 : ∀ t ∈ usesG ops o, az.tmps[t]? = az0.tmps[t]? := fun t ht => hC.2.2 t fun c hc hcf hd => by
        rcases hfx.1 t ht c hc with h | h
        · rw [hcf] at h; cases h
        · exact h hd
      have hall : ∀ t ∈ usesG ops o, a.tmps[t]? = az0.tmps[t]? := fun t ht => (hloc t ht).trans (hloc0 t ht)
      have hstep := hfix i (by simpa using hif) o ho w hS
      have hl2 : ∀ j, j < ops.size → listed'.getD j true = ((listed.setIfInBounds i true).getD j true || fx.contains j) := fun j hj => by
        by_cases hji : j = i
        · subst hji
          rw [hl j hj, hif]; simp
        · rw [getD_set_ne true (Ne.symm hji)]; exact hl j hj
      have hA2 : ∀ v, az0.put o.dst v = az0 → AgreeS ops fx az (listed.setIfInBounds i true) (a.put o.dst v) := fun v hv => by
        refine ⟨by rw [put_defers]; exact hA.1, by rw [put_size]; exact hA.2.1, fun t ht => ?_⟩
        by_cases hd : o.dst = some t
        · have e0 : az.tmps[t]? = az0.tmps[t]? := hC.2.2 t fun c hc hcf hdc => by
            rcases hfx.2 c hc with (h | h) | h
            · rw [hcf] at h; cases h
            · rw [hd] at h; cases h
            · exact h (hdc.trans hd.symm)
          have e1 := put_at a az0 t v (hA.2.1.trans hC.2.1)
          rw [← hd, hv] at e1
          rw [e1, e0]
        · rw [put_other _ _ _ _ hd]
          refine hA.2.2 t fun j hj hjs hjl hdj => ?_
          by_cases hji : j = i
          · subst hji; rw [ho] at hdj; exact hd hdj
          · exact ht j hj hjs (by rw [getD_set_ne true (Ne.symm hji)]; exact hjl) hdj
      rw [wanted_of hall]
      by_cases hw : Region.wanted o (yielded ops az0.tmps) = true
      · rw [if_pos hw] at hstep ⊢
        refine wpIn_swap hdef hsel (eval_of hall) (fun a' w' h => by rw [h.1]) (fun v w' h => ?_) hstep
        obtain ⟨hv, rfl⟩ := h
        exact ih k _ listed' _ az _ (by simpa using hs) hs' hl2 (by omega) hk hD2 (hA2 v hv) hC (fun _ => hS) hW
      · rw [if_neg hw] at hstep ⊢
        have e2 := about_congr (P := P) o w (eval_of hall)
        exact ⟨fun f hf => hstep.1 f (by rw [← e2]; exact hf), ih k _ listed' _ az _ (by simpa using hs) hs' hl2 (by omega) hk hD2 (hA2 _ hstep.2) hC (fun _ => hS) hW⟩
    · have hif' : fx.contains i = false := by simpa using hif
      have hu' : listed'.getD i true = false := by rw [hl i his, hu, hif']; rfl
      have hr' : i ∈ Region.ready md ops listed' := mem_ready.2 ⟨hu', o, ho, fun e he hb => by
        simp only [List.all_eq_true, Array.mem_toList_iff] at hback
        have h2 := hback e he
        simp only [hb, Bool.not_true, Bool.false_or, decide_eq_true_eq] at h2
        refine gd _ _ hs' (by omega) ?_
        rw [hl e.on (by omega), gd2 _ _ (hp e he hb)]; rfl⟩
      have hk' := unl_len hs' his hu'
      rw [hk] at hk'
      obtain ⟨k', rfl⟩ : ∃ k', k = k' + 1 := ⟨k - 1, by omega⟩
      have hstep := hW i hr' o ho
      have hl2 : ∀ j, j < ops.size → (listed'.setIfInBounds i true).getD j true = ((listed.setIfInBounds i true).getD j true || fx.contains j) := fun j hj => by
        by_cases hji : j = i
        · subst hji
          have h1 : j < listed'.size := by omega
          have h2 : j < listed.size := by omega
          simp [h1, h2]
        · rw [getD_set_ne true (Ne.symm hji), getD_set_ne true (Ne.symm hji)]; exact hl j hj
      have hA2 : ∀ v, AgreeS ops fx (az.put o.dst v) (listed.setIfInBounds i true) (a.put o.dst v) := fun v => by
        refine ⟨by rw [put_defers, put_defers]; exact hA.1, by rw [put_size, put_size]; exact hA.2.1, fun t ht => ?_⟩
        by_cases hd : o.dst = some t
        · rw [hd]; exact put_at _ _ _ _ hA.2.1
        · rw [put_other _ _ _ _ hd, put_other _ _ _ _ hd]
          refine hA.2.2 t fun j hj hjs hjl hdj => ?_
          by_cases hji : j = i
          · subst hji; rw [ho] at hdj; exact hd hdj
          · exact ht j hj hjs (by rw [getD_set_ne true (Ne.symm hji)]; exact hjl) hdj
      have hC2 : ∀ v, AgreeC ops fx az0 (az.put o.dst v) := fun v => by
        refine ⟨by rw [put_defers]; exact hC.1, by rw [put_size]; exact hC.2.1, fun t ht => ?_⟩
        rw [put_other _ _ _ _ (fun hd => ht i his hif' (by rw [ho]; exact hd))]
        exact hC.2.2 t ht
      have hlast : k' = 0 → m = 0 := fun hk0 => by
        have hall := upS_all hup (by simpa using hs) hD2 (fun j hj hjf => by
          have h2 := hl2 j hj
          rw [hjf, Bool.or_false] at h2
          rw [← h2]
          have h3 : ((List.range ops.size).filter fun j => !(listed'.setIfInBounds i true).getD j true) = [] := List.length_eq_zero_iff.1 (by omega)
          have h4 := List.filter_eq_nil_iff.1 h3 j (List.mem_range.2 hj)
          simpa using h4)
        have h5 : ((List.range ops.size).filter fun j => !(listed.setIfInBounds i true).getD j true) = [] := List.filter_eq_nil_iff.2 fun j hj => by rw [hall j (List.mem_range.1 hj)]; simp
        rw [h5] at hm'
        simp at hm'
        omega
      rw [wanted_of hloc]
      by_cases hw : Region.wanted o (yielded ops az.tmps) = true
      · rw [if_pos hw] at hstep ⊢
        refine wpIn_swap hdef hsel (eval_of hloc) (fun a' w' h => h.1) (fun v w' h => ?_) hstep
        exact ih k' _ _ _ _ _ (by simpa using hs) (by simpa using hs') hl2 (by omega) (by omega) hD2 (hA2 v) (hC2 v) (fun h0 => h.2.1 (fun e => h0 (hlast e))) h.2.2
      · rw [if_neg hw] at hstep ⊢
        have e2 := about_congr (P := P) o w (eval_of hloc)
        exact ⟨fun f hf => hstep.1 f (by rw [← e2]; exact hf), ih k' _ _ _ _ _ (by simpa using hs) (by simpa using hs') hl2 (by omega) (by omega) hD2 (hA2 _) (hC2 _) (fun h0 => hstep.2.2.1 (fun e => h0 (hlast e))) hstep.2.2.2⟩
/-- the values of operations by their numbers, put one after another -/
def putsL (ops : Array Oper) : List (Nat × Value) → Act → Act
  | [], a => a
  | (i, v) :: vs, a => putsL ops vs (a.put ((ops[i]?).bind (·.dst)) v)
theorem putsL_spec (ops : Array Oper) : ∀ (vs : List (Nat × Value)) (a : Act), (putsL ops vs a).defers = a.defers ∧ (putsL ops vs a).tmps.size = a.tmps.size ∧ ∀ t, (∀ x ∈ vs, (ops[x.1]?).bind (·.dst) ≠ some t) → (putsL ops vs a).tmps[t]? = a.tmps[t]? := by
  intro vs
  induction vs with
  | nil => intro a; exact ⟨rfl, rfl, fun _ _ => rfl⟩
  | cons v vs ih =>
    intro a
    obtain ⟨i, v⟩ := v
    obtain ⟨h1, h2, h3⟩ := ih (a.put ((ops[i]?).bind (·.dst)) v)
    unfold putsL
    refine ⟨by rw [h1, put_defers], by rw [h2, put_size], fun t ht => ?_⟩
    rw [h3 t (fun x hx => ht x (List.mem_cons_of_mem _ hx)), put_other _ _ _ _ (ht (i, v) (List.mem_cons_self ..))]
/-- those that leave the world as it is, checked one by one -/
def FixS (F : Fence) (n : Nat) (P : Program) (ops : Array Oper) (S : World → Prop) (az : Act) (L : List Nat) : Prop :=
  ∀ i ∈ L, ∀ o, ops[i]? = some o → ∀ w, S w → if Region.wanted o (yielded ops az.tmps) = true then o.wpIn F n P az w (fun a' w' => a' = az ∧ w' = w) (fun _ _ _ => False) else (∀ f, o.about P w az.eval = some f → F.fn f) ∧ az.put o.dst undef = az
theorem FixS.nil {az : Act} : FixS F n P ops S az [] := fun _ h => by cases h
theorem FixS.cons {az : Act} {i : Nat} {L : List Nat} {o : Oper} (ho : ops[i]? = some o) (hw : Region.wanted o (yielded ops az.tmps) = true) (h : ∀ w, S w → o.wpIn F n P az w (fun a' w' => a' = az ∧ w' = w) (fun _ _ _ => False)) (hs : FixS F n P ops S az L) : FixS F n P ops S az (i :: L) := by
  intro j hj o' ho' w hS
  rcases List.mem_cons.1 hj with rfl | hj
  · rw [ho] at ho'; injection ho' with ho'; subst ho'
    rw [if_pos hw]; exact h w hS
  · exact hs j hj o' ho' w hS
theorem FixS.skip {az : Act} {i : Nat} {L : List Nat} {o : Oper} (ho : ops[i]? = some o) (hw : Region.wanted o (yielded ops az.tmps) = false) (h : ∀ w, S w → (∀ f, o.about P w az.eval = some f → F.fn f) ∧ az.put o.dst undef = az) (hs : FixS F n P ops S az L) : FixS F n P ops S az (i :: L) := by
  intro j hj o' ho' w hS
  rcases List.mem_cons.1 hj with rfl | hj
  · rw [ho] at ho'; injection ho' with ho'; subst ho'
    rw [if_neg (by rw [hw]; simp)]; exact h w hS
  · exact hs j hj o' ho' w hS
/-- the law: the operations named in vs first, each with its value; then all orders of the others -/
theorem wpAnyIn_first (vs : List (Nat × Value)) (S : World → Prop) (a az : Act) (w : World) (haz : putsL ops vs a = az) (hok : okS md ops (vs.map (·.1)) = true) (hup : upS md ops (vs.map (·.1)) = true) (hS : S w)
    (listed' : Array Bool) (hl : (List.range ops.size).map (fun j => (vs.map (·.1)).contains j) = listed'.toList) (k : Nat) (hk : ((List.range ops.size).filter fun j => !listed'.getD j true).length = k)
    (hfix : FixS F n P ops S az (vs.map (·.1))) (hrest : wpAnyS F n P md ops Q S k listed' az w) : wpAnyIn F n P md ops Q ops.size (Array.replicate ops.size false) a w := by
  obtain ⟨h1, h2, h3⟩ := putsL_spec ops vs a
  rw [haz] at h1 h2 h3
  have hs' : listed'.size = ops.size := by
    have := congrArg List.length hl
    simpa using this.symm
  refine anyS_go hok hup hfix ops.size k (Array.replicate ops.size false) listed' a az w (by simp) hs' (fun j hj => ?_) ?_ hk (fun i o ho hl => by
      have h' : i < ops.size := (Array.getElem?_eq_some_iff.1 ho).1
      simp [h'] at hl) ⟨h1.symm, h2.symm, fun t ht => (h3 t fun x hx hd => ?_).symm⟩ ⟨rfl, rfl, fun _ _ => rfl⟩ (fun _ => hS) hrest
  · have e : listed'[j]? = some ((vs.map (·.1)).contains j) := by
      rw [← Array.getElem?_toList, ← hl]
      simp [hj]
    have h' : j < listed'.size := by omega
    rw [Array.getElem?_eq_getElem h'] at e
    injection e with e
    have e3 : listed'.getD j true = listed'[j] := by simp [h']
    have e4 : (Array.replicate ops.size false).getD j true = false := by simp [hj]
    rw [e3, e4, e]; rfl
  · rw [List.filter_eq_self.2]
    · simp
    · intro j hj
      have hj := List.mem_range.1 hj
      simp [hj]
  · rcases Nat.lt_or_ge x.1 ops.size with h | h
    · exact ht x.1 (List.mem_map_of_mem hx) h (by simp [h]) hd
    · rw [Array.getElem?_eq_none h] at hd; cases hd
theorem wpAnyS_one {fuel : Nat} {listed : Array Bool} {a : Act} {w : World} (i : Nat) (o : Oper) (hr : Region.ready md ops listed = [i]) (ho : ops[i]? = some o) (hw : Region.wanted o (yielded ops a.tmps) = true)
    (h : ∀ K : Act → World → Prop, (∀ v w', (fuel ≠ 0 → S w') → wpAnyS F n P md ops Q S fuel (listed.setIfInBounds i true) (a.put o.dst v) w' → K (a.put o.dst v) w') → o.wpIn F n P a w K (fun _ _ _ => False)) : wpAnyS F n P md ops Q S (fuel + 1) listed a w := by
  intro j hj
  rw [hr, List.mem_singleton] at hj
  subst hj
  intro o' ho'
  rw [ho] at ho'; injection ho' with ho'; subst ho'
  rw [if_pos hw]
  exact h _ fun v w' h1 h2 => ⟨put_defers _ _ _, h1, h2⟩
theorem wpAnyS_two {fuel : Nat} {listed : Array Bool} {a : Act} {w : World} (i j : Nat) (o o2 : Oper) (hr : Region.ready md ops listed = [i, j]) (ho : ops[i]? = some o) (ho2 : ops[j]? = some o2) (hw : Region.wanted o (yielded ops a.tmps) = true) (hw2 : Region.wanted o2 (yielded ops a.tmps) = true)
    (h : ∀ K : Act → World → Prop, (∀ v w', (fuel ≠ 0 → S w') → wpAnyS F n P md ops Q S fuel (listed.setIfInBounds i true) (a.put o.dst v) w' → K (a.put o.dst v) w') → o.wpIn F n P a w K (fun _ _ _ => False))
    (h2 : ∀ K : Act → World → Prop, (∀ v w', (fuel ≠ 0 → S w') → wpAnyS F n P md ops Q S fuel (listed.setIfInBounds j true) (a.put o2.dst v) w' → K (a.put o2.dst v) w') → o2.wpIn F n P a w K (fun _ _ _ => False)) : wpAnyS F n P md ops Q S (fuel + 1) listed a w := by
  intro l hl
  rw [hr] at hl
  rcases List.mem_cons.1 hl with rfl | hl
  · intro o' ho'
    rw [ho] at ho'; injection ho' with ho'; subst ho'
    rw [if_pos hw]
    exact h _ fun v w' h1 h2 => ⟨put_defers _ _ _, h1, h2⟩
  · rw [List.mem_singleton] at hl
    subst hl
    intro o' ho'
    rw [ho2] at ho'; injection ho' with ho'; subst ho'
    rw [if_pos hw2]
    exact h2 _ fun v w' h1 h2 => ⟨put_defers _ _ _, h1, h2⟩
theorem wpAnyS_skip {fuel : Nat} {listed : Array Bool} {a : Act} {w : World} (i : Nat) (o : Oper) (hr : Region.ready md ops listed = [i]) (ho : ops[i]? = some o) (hw : Region.wanted o (yielded ops a.tmps) = false)
    (hab : ∀ f, o.about P w a.eval = some f → F.fn f) (hS : fuel ≠ 0 → S w) (h : wpAnyS F n P md ops Q S fuel (listed.setIfInBounds i true) (a.put o.dst undef) w) : wpAnyS F n P md ops Q S (fuel + 1) listed a w := by
  intro j hj
  rw [hr, List.mem_singleton] at hj
  subst hj
  intro o' ho'
  rw [ho] at ho'; injection ho' with ho'; subst ho'
  rw [if_neg (by rw [hw]; simp)]
  exact ⟨hab, put_defers _ _ _, hS, h⟩
end
end Go.Proofs.Ytgkghebjaedjmaa
namespace Go.Proofs.Ytgkghebjaedjmaa
open Go.RowKit
set_option linter.unusedVariables false
section flat
variable {n : Nat} {R : List (List Value)}
theorem flatV_len (h : ∀ L ∈ R, L.length = n) : R.flatten.length = R.length * n := by
  induction R with
  | nil => simp
  | cons x S ih => rw [List.flatten_cons, List.length_append, ih (fun L hL => h L (List.mem_cons_of_mem _ hL)), h x (List.mem_cons_self ..), List.length_cons, Nat.add_mul]; omega
theorem flatV_get (h : ∀ L ∈ R, L.length = n) : ∀ {i k : Nat} (hi : i < R.length), k < n → R.flatten[i * n + k]? = R[i][k]? := by
  induction R with
  | nil => intro i k hi; simp at hi
  | cons x S ih =>
    intro i k hi hk
    have hx := h x (List.mem_cons_self ..)
    cases i with
    | zero => rw [Nat.zero_mul, Nat.zero_add, List.flatten_cons, List.getElem?_append_left (by omega)]; rfl
    | succ i =>
      rw [List.flatten_cons, List.getElem?_append_right (by rw [Nat.add_mul]; omega), show (i + 1) * n + k - x.length = i * n + k from by rw [Nat.add_mul]; omega, ih (fun L hL => h L (List.mem_cons_of_mem _ hL)) (by simpa using hi) hk]
      rfl
end flat
/-- what lies between two marks has been kept -/
def Kin (lo hi : Nat) (w w' : World) : Prop := w.heap.size ≤ w'.heap.size ∧ ∀ g, lo ≤ g → g < hi → w'.heap[g]? = w.heap[g]?
theorem Kin.below {B lo hi : Nat} {w w' : World} (h : Below B w w') (hh : hi ≤ B) : Kin lo hi w w' := ⟨h.size, fun g _ h2 => h.block g (Nat.lt_of_lt_of_le h2 hh)⟩
theorem Kin.alloc {lo hi : Nat} {w : World} (o : Obj) (hh : hi ≤ w.heap.size) : Kin lo hi w (w.alloc o) := ⟨by simp, fun g _ h2 => Below.heap_alloc w o g (Nat.lt_of_lt_of_le h2 hh)⟩
theorem Kin.aside {lo hi l h : Nat} {w w' : World} (ha : Aside l h w w') (hd : hi ≤ l ∨ h ≤ lo) (hh : hi ≤ w.heap.size) : Kin lo hi w w' := ⟨ha.1, fun g h1 h2 => ha.2 g (by omega) (Nat.lt_of_lt_of_le h2 hh)⟩
theorem Kin.grown {lo hi : Nat} {w w' : World} {row : Option Nat} (hg : w.grownBy w' row) (hh : hi ≤ w.heap.size) (hr : ∀ g, row = some g → g < lo ∨ hi ≤ g) : Kin lo hi w w' :=
  ⟨hg.size, fun g h1 h2 => hg.block g (Nat.lt_of_lt_of_le h2 hh) (fun e => by have := hr g e.symm; omega)⟩
theorem Kin.dr {lo hi : Nat} {w w' : World} (h : Dr w w') : Kin lo hi w w' := by obtain ⟨n, rfl⟩ := h; exact ⟨Nat.le_refl _, fun _ _ _ => rfl⟩
theorem Kin.sub {lo hi lo' hi' : Nat} {w w' : World} (h : Kin lo hi w w') (h1 : lo ≤ lo') (h2 : hi' ≤ hi) : Kin lo' hi' w w' := ⟨h.1, fun g a b => h.2 g (by omega) (by omega)⟩
theorem Own.kin {w w' : World} {lo hi : Nat} {e : TypeId} {v : Value} {vs : List Value} (h : Own w lo hi e v vs) (hk : Kin lo hi w w') : Own w' lo hi e v vs := h.keep hk.1 fun g hg => hk.2 g (h.base g hg) (h.lt g hg)
/-- what lies in cells of some types between two marks has been kept -/
def Stay (ts : TypeId → Bool) (lo hi : Nat) (w w' : World) : Prop := w.heap.size ≤ w'.heap.size ∧ ∀ (g : Nat) (cs : Array Value) (t : TypeId), ts t = true → lo ≤ g → g < hi → w.heap[g]? = some (.cells cs t (0, 0)) → w'.heap[g]? = w.heap[g]?
theorem Kin.stay {ts : TypeId → Bool} {lo hi : Nat} {w w' : World} (h : Kin lo hi w w') : Stay ts lo hi w w' := ⟨h.1, fun g _ _ _ a b _ => h.2 g a b⟩
theorem Stay.sub {ts : TypeId → Bool} {lo hi lo' hi' : Nat} {w w' : World} (h : Stay ts lo hi w w') (h1 : lo ≤ lo') (h2 : hi' ≤ hi) : Stay ts lo' hi' w w' := ⟨h.1, fun g cs t ht a b hc => h.2 g cs t ht (by omega) (by omega) hc⟩
theorem Own.stayT {ts : TypeId → Bool} {w w' : World} {lo hi : Nat} {e : TypeId} {v : Value} {vs : List Value} (h : Own w lo hi e v vs) (hk : Stay ts lo hi w w') (he : ts e = true) : Own w' lo hi e v vs :=
  h.keep hk.1 fun g hg => by
    rcases h.row.2 with ⟨h1, _⟩ | ⟨g', cap, cur, h1, hb, hc, _⟩
    · rw [h1] at hg; simp [Value.ownBlock] at hg
    · have hlt := h.lt g hg
      rw [h1] at hg
      simp [Value.ownBlock] at hg
      subst hg
      exact hk.2 _ _ _ he hb hlt hc
/-- an element's memory stands as long as what lies between its marks in cells of its types does -/
structure KeepE {α : Type} (E : World → Nat → Nat → List Value → α → Prop) (ts : TypeId → Bool) : Prop where
  keep : ∀ {w w' : World} {lo hi : Nat} {u : List Value} {x : α}, E w lo hi u x → Stay ts lo hi w w' → E w' lo hi u x
theorem KeepE.kin {α : Type} {E : World → Nat → Nat → List Value → α → Prop} {ts : TypeId → Bool} (hE : KeepE E ts) {w w' : World} {lo hi : Nat} {u : List Value} {x : α} (h : E w lo hi u x) (hk : Kin lo hi w w') : E w' lo hi u x := hE.keep h hk.stay
structure OwnBag {α : Type} (E : World → Nat → Nat → List Value → α → Prop) (w : World) (lo hi : Nat) (t : TypeId) (n : Nat) (v : Value) (us : List (List Value)) (iv : List (Nat × Nat)) (X : List α) : Prop where
  row : w.ownsRow lo t n v X.length us.flatten
  lt : ∀ g, v.ownBlock = some g → g < hi
  le : hi ≤ w.heap.size
  lenU : us.length = X.length
  lenI : iv.length = X.length
  wid : ∀ u ∈ us, u.length = n
  one : ∀ u ∈ us.flatten, u.oneCell' = true
  el : ∀ (k : Nat) (u : List Value) (x : α) (i : Nat × Nat), us[k]? = some u → X[k]? = some x → iv[k]? = some i → E w i.1 i.2 u x ∧ lo ≤ i.1 ∧ i.1 ≤ i.2 ∧ i.2 ≤ hi
  out : ∀ (k : Nat) (i : Nat × Nat) (g : Nat), iv[k]? = some i → v.ownBlock = some g → g < i.1 ∨ i.2 ≤ g
  sep : ∀ (j k : Nat) (i i' : Nat × Nat), j < k → iv[j]? = some i → iv[k]? = some i' → i.2 ≤ i'.1
section
variable {α : Type} {ts : TypeId → Bool} {E : World → Nat → Nat → List Value → α → Prop} {w w' : World} {lo hi : Nat} {t : TypeId} {n : Nat} {v : Value} {us : List (List Value)} {iv : List (Nat × Nat)} {X : List α}
theorem OwnBag.base (h : OwnBag E w lo hi t n v us iv X) : ∀ g, v.ownBlock = some g → lo ≤ g := fun g hg => (h.row.lt g hg).1
theorem OwnBag.kin (hE : KeepE E ts) (h : OwnBag E w lo hi t n v us iv X) (hk : Kin lo hi w w') : OwnBag E w' lo hi t n v us iv X :=
  ⟨ownsRowN_keep h.row fun g hg => hk.2 g (h.base g hg) (h.lt g hg), h.lt, Nat.le_trans h.le hk.1, h.lenU, h.lenI, h.wid, h.one, fun k u x i h1 h2 h3 => by
    obtain ⟨e1, e2, e3, e4⟩ := h.el k u x i h1 h2 h3
    exact ⟨hE.kin e1 (hk.sub e2 e4), e2, e3, e4⟩, h.out, h.sep⟩
theorem OwnBag.stay (hE : KeepE E ts) (h : OwnBag E w lo hi t n v us iv X) (hk : Stay ts lo hi w w') (ht : ts t = true) : OwnBag E w' lo hi t n v us iv X :=
  ⟨ownsRowN_keep h.row fun g hg => by
    rcases h.row.2 with ⟨h1, _⟩ | ⟨g', cap, cur, h1, hb, hc, _⟩
    · rw [h1] at hg; simp [Value.ownBlock] at hg
    · have hlt := h.lt g hg
      rw [h1] at hg
      simp [Value.ownBlock] at hg
      subst hg
      exact hk.2 _ _ _ ht hb hlt hc, h.lt, Nat.le_trans h.le hk.1, h.lenU, h.lenI, h.wid, h.one, fun k u x i h1 h2 h3 => by
    obtain ⟨e1, e2, e3, e4⟩ := h.el k u x i h1 h2 h3
    exact ⟨hE.keep e1 (hk.sub e2 e4), e2, e3, e4⟩, h.out, h.sep⟩
theorem OwnBag.below (hE : KeepE E ts) (h : OwnBag E w lo hi t n v us iv X) (hb : Below hi w w') : OwnBag E w' lo hi t n v us iv X := h.kin hE (Kin.below hb (Nat.le_refl _))
theorem OwnBag.alloc (hE : KeepE E ts) (h : OwnBag E w lo hi t n v us iv X) (o : Obj) : OwnBag E (w.alloc o) lo hi t n v us iv X := h.kin hE (Kin.alloc o h.le)
theorem OwnBag.more (h : OwnBag E w lo hi t n v us iv X) : OwnBag E w lo w.heap.size t n v us iv X :=
  ⟨h.row, fun g hg => Nat.lt_of_lt_of_le (h.lt g hg) h.le, Nat.le_refl _, h.lenU, h.lenI, h.wid, h.one, fun k u x i h1 h2 h3 => by
    obtain ⟨e1, e2, e3, e4⟩ := h.el k u x i h1 h2 h3
    exact ⟨e1, e2, e3, Nat.le_trans e4 h.le⟩, h.out, h.sep⟩
theorem OwnBag.lower {lo' : Nat} (h : OwnBag E w lo hi t n v us iv X) (hl : lo' ≤ lo) : OwnBag E w lo' hi t n v us iv X :=
  ⟨⟨h.row.1, h.row.2.imp id fun ⟨g, cap, cur, h1, h2, h3⟩ => ⟨g, cap, cur, h1, Nat.le_trans hl h2, h3⟩⟩, h.lt, h.le, h.lenU, h.lenI, h.wid, h.one, fun k u x i h1 h2 h3 => by
    obtain ⟨e1, e2, e3, e4⟩ := h.el k u x i h1 h2 h3
    exact ⟨e1, Nat.le_trans hl e2, e3, e4⟩, h.out, h.sep⟩
theorem OwnBag.form (h : OwnBag E w lo hi t n v us iv X) : ∃ a c, v = .slice a X.length c := by
  rcases h.row.2 with ⟨h1, h2⟩ | ⟨g, cap, cur, h1, _⟩
  · exact ⟨none, 0, by rw [h1, h2]⟩
  · exact ⟨_, _, h1⟩
theorem OwnBag.nil (w : World) (lo : Nat) (t : TypeId) (n : Nat) : OwnBag E w lo w.heap.size t n (.slice none 0 0) [] [] [] :=
  ⟨World.ownsRow_nil w lo t n, fun g hg => by simp [Value.ownBlock] at hg, Nat.le_refl _, rfl, rfl, fun u hu => by simp at hu, fun u hu => by simp at hu, fun k u x i hu => by simp at hu, fun k i g hi => by simp at hi, fun j k i i' _ hi => by simp at hi⟩
theorem OwnBag.empty (w : World) (t : TypeId) (n : Nat) : OwnBag E (w.alloc (.cells #[] t)) w.heap.size (w.heap.size + 1) t n (.slice (some ⟨w.heap.size, 0, none⟩) 0 0) [] [] [] :=
  ⟨⟨by simp, .inr ⟨w.heap.size, 0, #[], rfl, Nat.le_refl _, heap_alloc_new w _, Nat.le_refl _, Nat.zero_le _, by simp, by simp⟩⟩, fun g hg => by simp [Value.ownBlock] at hg; omega, by simp, rfl, rfl, fun u hu => by simp at hu, fun u hu => by simp at hu, fun k u x i hu => by simp at hu, fun k i g hi => by simp at hi, fun j k i i' _ hi => by simp at hi⟩
/-- one element that has been made between two marks, in a slice just laid -/
theorem OwnBag.single (hE : KeepE E ts) {i0 i1 : Nat} {u : List Value} {x : α} (he : E w i0 i1 u x) (h01 : i0 ≤ i1) (h1 : i1 ≤ w.heap.size) (hu : u.length = n) (hone : ∀ y ∈ u, y.oneCell' = true) :
    OwnBag E (w.alloc (.cells u.toArray t)) i0 (w.heap.size + 1) t n (.slice (some ⟨w.heap.size, 0, none⟩) 1 1) [u] [(i0, i1)] [x] := by
  have one : ∀ (k : Nat) {β : Type} (a b : β), [a][k]? = some b → k = 0 ∧ a = b := fun k β a b h => by
    cases k with
    | zero => exact ⟨rfl, by simpa using h⟩
    | succ k => simp at h
  refine ⟨⟨by simp [hu], .inr ⟨w.heap.size, 1, _, rfl, by omega, heap_alloc_new w _, Nat.le_refl _, by unfold maxLen; omega, by simp [hu], by simp [← hu]⟩⟩, fun g hg => by simp [Value.ownBlock] at hg; omega, by simp, rfl, rfl,
    fun y hy => by rw [List.mem_singleton.1 hy]; exact hu, fun y hy => hone y (by simpa using hy), fun k a b c h1' h2' h3' => ?_, fun k i g hi hg => ?_, fun j k i i' hjk h1' h2' => ?_⟩
  · obtain ⟨rfl, rfl⟩ := one k _ _ h1'
    obtain ⟨_, rfl⟩ := one 0 _ _ h2'
    obtain ⟨_, rfl⟩ := one 0 _ _ h3'
    exact ⟨hE.kin he (Kin.alloc _ h1), Nat.le_refl _, h01, by show i1 ≤ _; omega⟩
  · obtain ⟨_, rfl⟩ := one k _ _ hi
    simp [Value.ownBlock] at hg
    right; show i1 ≤ g; omega
  · obtain ⟨rfl, _⟩ := one k _ _ h2'
    omega
/-- the k-th element -/
theorem OwnBag.at_ (h : OwnBag E w lo hi t n v us iv X) {k : Nat} (hk : k < X.length) : ∃ g c u i, v = .slice (some ⟨g, 0, none⟩) X.length c ∧ lo ≤ g ∧ g < hi ∧ us[k]? = some u ∧ iv[k]? = some i ∧ u.length = n ∧ E w i.1 i.2 u X[k] ∧ lo ≤ i.1 ∧ i.1 ≤ i.2 ∧ i.2 ≤ hi ∧ (g < i.1 ∨ i.2 ≤ g) ∧
    (∀ j y, u[j]? = some y → w.cell? ⟨g, k * n + j, none⟩ = some y) ∧ (∀ i, w.frozen? ⟨g, i, none⟩ = false) := by
  have hku : k < us.length := by rw [h.lenU]; exact hk
  have hki : k < iv.length := by rw [h.lenI]; exact hk
  have hu := List.getElem?_eq_getElem hku
  have hi' := List.getElem?_eq_getElem hki
  have hw := h.wid us[k] (List.getElem_mem hku)
  obtain ⟨e1, e2, e3, e4⟩ := h.el k _ _ _ hu (List.getElem?_eq_getElem hk) hi'
  rcases h.row.2 with ⟨h1, h2⟩ | ⟨g, cap, cur, rfl, hb, hg, _, _, _, ht⟩
  · omega
  · refine ⟨g, cap, us[k], iv[k], rfl, hb, h.lt g rfl, hu, hi', hw, e1, e2, e3, e4, h.out k _ g hi' rfl, fun j y hy => ?_, fun i => frozen_of_row w g i cur t hg⟩
    have hj : j < n := by rw [← hw]; exact (List.getElem?_eq_some_iff.1 hy).1
    rw [cell_of_row w g (k * n + j) cur t (0, 0) hg]
    have h3 : us.flatten[k * n + j]? = some y := by rw [flatV_get h.wid hku hj]; exact hy
    rw [← ht, List.getElem?_take] at h3
    split at h3
    · simpa using h3
    · cases h3
/-- the k-th element has been written into -/
theorem OwnBag.setAt (hE : KeepE E ts) (h : OwnBag E w lo hi t n v us iv X) {k : Nat} (hk : k < X.length) {u : List Value} {i : Nat × Nat} (hu : us[k]? = some u) (hi' : iv[k]? = some i) {x : α} (ha : Aside i.1 i.2 w w') (hx : E w' i.1 i.2 u x) : OwnBag E w' lo hi t n v us iv (X.set k x) := by
  have hle := h.le
  have hel := h.el k u X[k] i hu (List.getElem?_eq_getElem hk) hi'
  refine ⟨?_, h.lt, Nat.le_trans h.le ha.1, by rw [List.length_set]; exact h.lenU, by rw [List.length_set]; exact h.lenI, h.wid, h.one, fun j u2 x2 i2 h1 h2 h3 => ?_, h.out, h.sep⟩
  · rw [List.length_set]
    exact ownsRowN_keep h.row fun g hg => ha.2 g (h.out k i g hi' hg) (Nat.lt_of_lt_of_le (h.lt g hg) hle)
  · by_cases hj : j = k
    · subst hj
      rw [hu] at h1; injection h1 with h1
      rw [hi'] at h3; injection h3 with h3
      rw [List.getElem?_set_self (by omega)] at h2; injection h2 with h2
      subst h1 h2 h3
      exact ⟨hx, hel.2⟩
    · rw [List.getElem?_set_ne (Ne.symm hj)] at h2
      obtain ⟨e1, e2, e3, e4⟩ := h.el j u2 x2 i2 h1 h2 h3
      refine ⟨hE.kin e1 (Kin.aside ha ?_ (by omega)), e2, e3, e4⟩
      rcases Nat.lt_or_ge j k with hjk | hjk
      · left; exact h.sep j k i2 i hjk h3 hi'
      · right; exact h.sep k j i i2 (by omega) hi' h3
/-- the elements of another slice behind -/
theorem OwnBag.join (hE : KeepE E ts) {lo2 hi2 : Nat} {v2 v' : Value} {us2 : List (List Value)} {iv2 : List (Nat × Nat)} {X2 : List α} (h : OwnBag E w lo hi t n v us iv X) (h2 : OwnBag E w lo2 hi2 t n v2 us2 iv2 X2) (hd : hi ≤ lo2) (hlo : lo ≤ lo2)
    (hr : w'.ownsRow lo t n v' (X.length + X2.length) (us.flatten ++ us2.flatten)) (hg : w.grownBy w' v.ownBlock) (hat : v'.ownBlock = v.ownBlock ∨ v'.ownBlock = some w.heap.size) : OwnBag E w' lo w'.heap.size t n v' (us ++ us2) (iv ++ iv2) (X ++ X2) := by
  have hz := hg.size
  have hle := h.le
  have hle2 := h2.le
  have cut : ∀ {β : Type} (A B : List β) (m k : Nat) (b : β), A.length = m → (A ++ B)[k]? = some b → (k < m ∧ A[k]? = some b) ∨ (m ≤ k ∧ B[k - m]? = some b) := fun A B m k b hm hb => by
    rcases Nat.lt_or_ge k m with h | h
    · left; rw [List.getElem?_append_left (by omega)] at hb; exact ⟨h, hb⟩
    · right; rw [List.getElem?_append_right (by omega), hm] at hb; exact ⟨h, hb⟩
  have iL : ∀ (k : Nat) i, iv[k]? = some i → lo ≤ i.1 ∧ i.1 ≤ i.2 ∧ i.2 ≤ hi := fun k i hi' => by
    have hk := (List.getElem?_eq_some_iff.1 hi').1
    rw [h.lenI] at hk
    exact (h.el k _ _ i (List.getElem?_eq_getElem (by rw [h.lenU]; exact hk)) (List.getElem?_eq_getElem hk) hi').2
  have iR : ∀ (k : Nat) i, iv2[k]? = some i → lo2 ≤ i.1 ∧ i.1 ≤ i.2 ∧ i.2 ≤ hi2 := fun k i hi' => by
    have hk := (List.getElem?_eq_some_iff.1 hi').1
    rw [h2.lenI] at hk
    exact (h2.el k _ _ i (List.getElem?_eq_getElem (by rw [h2.lenU]; exact hk)) (List.getElem?_eq_getElem hk) hi').2
  have ob : ∀ g, v'.ownBlock = some g → (∀ (k : Nat) i, iv[k]? = some i → g < i.1 ∨ i.2 ≤ g) ∧ (∀ (k : Nat) i, iv2[k]? = some i → g < i.1 ∨ i.2 ≤ g) := fun g hg' => by
    rcases hat with e | e
    · rw [e] at hg'
      refine ⟨fun k i hi' => h.out k i g hi' hg', fun k i hi' => ?_⟩
      have := h.lt g hg'
      have := (iR k i hi').1
      left; omega
    · rw [e] at hg'
      cases hg'
      refine ⟨fun k i hi' => ?_, fun k i hi' => ?_⟩
      · have := (iL k i hi').2.2; right; omega
      · have := (iR k i hi').2.2; right; omega
  refine ⟨by rw [List.length_append, List.flatten_append]; exact hr, fun g hg' => (hr.lt g hg').2, Nat.le_refl _, by rw [List.length_append, List.length_append, h.lenU, h2.lenU], by rw [List.length_append, List.length_append, h.lenI, h2.lenI],
    fun u hu => (List.mem_append.1 hu).elim (h.wid u) (h2.wid u), fun u hu => by rw [List.flatten_append] at hu; exact (List.mem_append.1 hu).elim (h.one u) (h2.one u), fun k u x i hu hx hi' => ?_, fun k i g hi' hg' => ?_, fun j k i i' hjk hi1 hi2' => ?_⟩
  · rcases cut us us2 _ k u h.lenU hu with ⟨hk, hu⟩ | ⟨hk, hu⟩
    · rcases cut X X2 _ k x rfl hx with ⟨_, hx⟩ | ⟨hk2, _⟩
      · rcases cut iv iv2 _ k i h.lenI hi' with ⟨_, hi'⟩ | ⟨hk3, _⟩
        · obtain ⟨e1, e2, e3, e4⟩ := h.el k u x i hu hx hi'
          exact ⟨hE.kin e1 (Kin.grown hg (by omega) fun g hg' => h.out k i g hi' hg'), e2, e3, by omega⟩
        · omega
      · omega
    · rcases cut X X2 _ k x rfl hx with ⟨hk2, _⟩ | ⟨_, hx⟩
      · omega
      · rcases cut iv iv2 _ k i h.lenI hi' with ⟨hk3, _⟩ | ⟨_, hi'⟩
        · omega
        · obtain ⟨e1, e2, e3, e4⟩ := h2.el _ u x i hu hx hi'
          exact ⟨hE.kin e1 (Kin.grown hg (by omega) fun g hg' => by have := h.lt g hg'; left; omega), by omega, e3, by omega⟩
  · rcases cut iv iv2 _ k i h.lenI hi' with ⟨_, hi'⟩ | ⟨_, hi'⟩
    · exact (ob g hg').1 k i hi'
    · exact (ob g hg').2 _ i hi'
  · rcases cut iv iv2 _ j i h.lenI hi1 with ⟨hj, hi1⟩ | ⟨hj, hi1⟩
    · rcases cut iv iv2 _ k i' h.lenI hi2' with ⟨_, hi2'⟩ | ⟨_, hi2'⟩
      · exact h.sep j k i i' hjk hi1 hi2'
      · have := (iL j i hi1).2.2; have := (iR _ i' hi2').1; omega
    · rcases cut iv iv2 _ k i' h.lenI hi2' with ⟨hk, _⟩ | ⟨_, hi2'⟩
      · omega
      · exact h2.sep _ _ i i' (by omega) hi1 hi2'
theorem OwnBag.grown (hE : KeepE E ts) {row : Option Nat} (h : OwnBag E w lo hi t n v us iv X) (hg : w.grownBy w' row) (hr : ∀ g, row = some g → g < lo ∨ hi ≤ g) : OwnBag E w' lo hi t n v us iv X := h.kin hE (Kin.grown hg h.le hr)
/-- the append of another slice's elements -/
theorem run_append_bag {P : Program} (hE : KeepE E ts) {lo2 hi2 : Nat} {us2 : List (List Value)} {iv2 : List (Nat × Nat)} {X2 : List α} (ts ty : TypeId) (i : TypeInfo) (z : Value) (bytes : Nat) (ht : P.underlying ts = some (.slice t)) (hi0 : P.info? t = some i) (hz : i.zero = some z)
    (hsize : i.size = n) (hby : i.bytes = bytes) (hzs : z.cells.size = n) (hn : 0 < n) (h : OwnBag E w lo hi t n v us iv X) {A : Option Addr} {m c : Nat} (h2 : OwnBag E w lo2 hi2 t n (.slice A m c) us2 iv2 X2) (hd : hi ≤ lo2) (hlo : lo ≤ lo2)
    (hl : X.length ≤ 1000000000) (hl2 : X2.length ≤ 1000000000) (hb : bytes ≤ 10000) (hlw : lo ≤ w.heap.size) :
    ∃ v' w', (Builtin.append_ #[ts, ts] ty #[v, .slice A m c]).run P w = .ok v' w' ∧ OwnBag E w' lo w'.heap.size t n v' (us ++ us2) (iv ++ iv2) (X ++ X2) ∧ w.grownBy w' v.ownBlock ∧ (v'.ownBlock = v.ownBlock ∨ v'.ownBlock = some w.heap.size) := by
  have hm : m = X2.length := by
    obtain ⟨a', c', e⟩ := h2.form
    injection e
  subst hm
  by_cases h0 : X2.length = 0
  · have hX2 := List.eq_nil_of_length_eq_zero h0
    subst hX2
    have hu2 := List.eq_nil_of_length_eq_zero (h2.lenU.trans rfl)
    have hi2' := List.eq_nil_of_length_eq_zero (h2.lenI.trans rfl)
    subst hu2 hi2'
    refine ⟨v, w, ?_, by simpa using h.more, World.grownBy.refl w _, .inl rfl⟩
    rcases h.row.2 with ⟨rfl, h0⟩ | ⟨g, cap, cur, rfl, _, _, hnc, _⟩
    · simp [Builtin.append_, run_underlying ht, sizeOf, typeInfo, hi0, Builtin.lenOf, Builtin.firstCells]
      cases A <;> simp [loadCells, loadCellsFrom]
    · simp [Builtin.append_, run_underlying ht, sizeOf, typeInfo, hi0, Builtin.lenOf, Builtin.firstCells, hnc, storeCells]
      cases A <;> simp [loadCells, loadCellsFrom, storeCells]
  · have hk : 0 < X2.length := by omega
    obtain ⟨g, c', u, i', e, _⟩ := h2.at_ hk
    injection e with e _ ec
    subst e ec
    have hfl := flatV_len h2.wid
    rw [h2.lenU] at hfl
    have hcells : ∀ j u, us2.flatten[j]? = some u → w.cell? ((⟨g, 0, none⟩ : Addr).add j) = some u := fun j u hu => by
      rw [Addr.add_lit, Nat.zero_add]
      rcases h2.row.2 with ⟨h1, _⟩ | ⟨g', cap, cur, e, _, hgc, _, _, _, ht'⟩
      · cases h1
      · injection e with e; injection e with e; injection e with e
        subst e
        rw [cell_of_row w g j cur t (0, 0) hgc]
        rw [← ht', List.getElem?_take] at hu
        split at hu
        · simpa using hu
        · cases hu
    obtain ⟨v', w', hrun, r2, r3, _, r5⟩ := run_append_own_at (P := P) w lo ts ty t i z n bytes ht hi0 hz hsize hby hzs hn v _ us.flatten h.row ⟨g, 0, none⟩ X2.length c us2.flatten hfl hcells h2.one (by unfold maxLen; omega) (by
      have : (X.length + X2.length) * bytes ≤ 2000000000 * 10000 := Nat.mul_le_mul (by omega) hb
      omega) hlw
    exact ⟨v', w', hrun, h.join hE h2 hd hlo r2 r3 r5, r3, r5⟩
theorem wpList_append_bag {P : Program} {ops : Array Oper} {rest : List Oper} {o : Oper} {a : Act} {Q : Exit → Act → World → Prop} (hgd : o.guard = none) (s x : Operand) (tl : TypeId) (ho : o.op = .call { callee := .builtin .append, args := #[s, x], argTypes := #[tl, tl] })
    (hE : KeepE E ts) {lo2 hi2 : Nat} {us2 : List (List Value)} {iv2 : List (Nat × Nat)} {X2 : List α} (i : TypeInfo) (z : Value) (bytes : Nat) (ht : P.underlying tl = some (.slice t)) (hi0 : P.info? t = some i) (hz : i.zero = some z)
    (hsize : i.size = n) (hby : i.bytes = bytes) (hzs : z.cells.size = n) (hn : 0 < n) (hs : a.eval s = v) (h : OwnBag E w lo hi t n v us iv X) {A : Option Addr} {m c : Nat} (hx : a.eval x = .slice A m c) (h2 : OwnBag E w lo2 hi2 t n (.slice A m c) us2 iv2 X2) (hd : hi ≤ lo2) (hlo : lo ≤ lo2)
    (hl : X.length ≤ 1000000000) (hl2 : X2.length ≤ 1000000000) (hb : bytes ≤ 10000) (hlw : lo ≤ w.heap.size)
    (hk : ∀ v' w', OwnBag E w' lo w'.heap.size t n v' (us ++ us2) (iv ++ iv2) (X ++ X2) → w.grownBy w' v.ownBlock → (v'.ownBlock = v.ownBlock ∨ v'.ownBlock = some w.heap.size) → wpList P ops Q rest (a.put o.dst v') w') : wpList P ops Q (o :: rest) a w :=
  wpList_plain hgd fun _ hK => by
    obtain ⟨v', w', hrun, h3, h4, h5⟩ := run_append_bag (P := P) hE tl o.type i z bytes ht hi0 hz hsize hby hzs hn h h2 hd hlo hl hl2 hb hlw
    unfold Oper.wp execOp
    simp only [ho, resolve, invoke, builtin, Sem.run_bind, Sem.run_pure, Result.andThen_ok, List.map_toArray, List.map_cons, List.map_nil, hs, hx]
    rw [hrun]
    exact hK _ _ (hk v' w' h3 h4 h5)
theorem OwnBag.cells (h : OwnBag E w lo hi t n v us iv X) : ∀ g, v.ownBlock = some g → ∃ cs, w.heap[g]? = some (.cells cs t (0, 0)) := fun g hg => by
  rcases h.row.2 with ⟨h1, _⟩ | ⟨g', cap, cur, h1, _, hb, _⟩
  · rw [h1] at hg; simp [Value.ownBlock] at hg
  · rw [h1] at hg
    simp [Value.ownBlock] at hg
    subst hg
    exact ⟨_, hb⟩
end
end Go.Proofs.Ytgkghebjaedjmaa
namespace Go.Proofs.Ytgkghebjaedjmaa
open Go.RowKit Go.Shelf
set_option maxRecDepth 8000
set_option linter.unusedVariables false
/-- what isn't in cells of some types has been kept -/
def KpX (bad : TypeId → Bool) (W W' : World) : Prop := W.heap.size ≤ W'.heap.size ∧ ∀ (j : Nat) (o : Obj), W.heap[j]? = some o → (∀ (cs : Array Value) (t : TypeId) (fr : Nat × Nat), o = .cells cs t fr → bad t = false) → W'.heap[j]? = some o
section
variable {bad : TypeId → Bool} {W W' W'' : World}
theorem KpX.refl (bad : TypeId → Bool) (W : World) : KpX bad W W := ⟨Nat.le_refl _, fun _ _ h _ => h⟩
theorem KpX.trans (h : KpX bad W W') (k : KpX bad W' W'') : KpX bad W W'' := ⟨Nat.le_trans h.1 k.1, fun j o hj ho => k.2 j o (h.2 j o hj ho) ho⟩
theorem KpX.below (h : Below W.heap.size W W') : KpX bad W W' := ⟨h.size, fun j o hj _ => (h.block j (Array.getElem?_eq_some_iff.1 hj).1).trans hj⟩
theorem KpX.grown {row : Option Nat} (hg : W.grownBy W' row) (hr : ∀ g, row = some g → ∃ (cs : Array Value) (t : TypeId) (fr : Nat × Nat), W.heap[g]? = some (.cells cs t fr) ∧ bad t = true) : KpX bad W W' :=
  ⟨hg.size, fun j o hj ho => (hg.block j (Array.getElem?_eq_some_iff.1 hj).1 (fun e => by
    obtain ⟨cs, t, fr, h1, h2⟩ := hr j e.symm
    rw [hj] at h1; injection h1 with h1
    rw [ho _ _ _ h1] at h2; cases h2)).trans hj⟩
theorem KpX.set {p : Addr} {u : Value} {cs : Array Value} {t : TypeId} {fr : Nat × Nat} (hc : W.heap[p.block]? = some (.cells cs t fr)) (hb : bad t = true) : KpX bad W (W.setCell p u) :=
  ⟨by simp [World.setCell], fun j o hj ho => (Below.heap_setCell W p u j (fun e => by
    subst e
    rw [hj] at hc; injection hc with hc
    rw [ho _ _ _ hc] at hb; cases hb)).trans hj⟩
theorem KpX.setRow {g : Nat} {vs cs : Array Value} {t : TypeId} {fr : Nat × Nat} (hc : W.heap[g]? = some (.cells cs t fr)) (hb : bad t = true) : KpX bad W (W.setRow g vs) :=
  ⟨by simp [World.setRow], fun j o hj ho => (setRow_other W g j vs (fun e => by
    subst e
    rw [hj] at hc; injection hc with hc
    rw [ho _ _ _ hc] at hb; cases hb)).trans hj⟩
theorem KpX.blk {g : Nat} {t : TypeId} {cs : Array Value} (h : KpX bad W W') (hb : Blk W g t cs) (ht : bad t = false) : Blk W' g t cs := h.2 g _ hb fun cs' t' fr' e => by injection e with _ e _; rw [← e]; exact ht
theorem KpX.own {lo hi : Nat} {e : TypeId} {v : Value} {vs : List Value} (h : KpX bad W W') (ho : Own W lo hi e v vs) (ht : bad e = false) : Own W' lo hi e v vs :=
  ho.stayT (ts := fun t => !bad t) (lo := lo) (hi := hi) ⟨h.1, fun g cs t ht' _ _ hc => (h.2 g _ hc fun cs' t' fr' e' => by injection e' with _ e' _; rw [← e']; simpa using ht').trans hc.symm⟩ (by rw [ht]; rfl)
theorem KpX.others (h : KpX bad W W') : KeepsOthers W W' := ⟨h.1, fun j o hj ho => h.2 j o hj fun cs t fr e => by subst e; simp [Obj.isCells] at ho⟩
theorem KpX.kpT {T : TypeId} (h : KpX bad W W') (hT : bad T = false) : KpT T W W' := ⟨h.1, fun b cs fr hb => h.2 b _ hb fun cs' t' fr' e => by injection e with _ e _; rw [← e]; exact hT⟩
end
section
variable {w a b : World} {row r2 : Option Nat}
/-- what a call may have changed of old blocks is one row -/
theorem gbN (h : w.grownBy a row) (hg : a.grownBy b r2) (hr : ∀ k, r2 = some k → row = some k ∨ w.heap.size ≤ k) : w.grownBy b row :=
  ⟨hg.1.trans h.1, hg.2.trans h.2, hg.3.trans h.3, Nat.le_trans h.4 hg.4, fun k hk hne => (hg.5 k (Nat.lt_of_lt_of_le hk h.4) (fun e => by
    rcases hr k e.symm with h1 | h1
    · exact hne h1.symm
    · omega)).trans (h.5 k hk hne)⟩
theorem gbNew (h : w.grownBy a row) {p : Addr} (hp : w.heap.size ≤ p.block) (u : Value) : w.grownBy (a.setCell p u) row :=
  ⟨h.1, h.2, h.3, by simpa [World.setCell] using h.4, fun k hk hne => (Below.heap_setCell a p u k (by omega)).trans (h.5 k hk hne)⟩
theorem gbRow (h : w.grownBy a row) {g : Nat} (hp : w.heap.size ≤ g) (vs : Array Value) : w.grownBy (a.setRow g vs) row := by
  have hb := below_setRow' (Below.refl w.heap.size a) hp vs
  exact ⟨(hb.os).trans h.1, (hb.tape).trans h.2, (hb.output).trans h.3, Nat.le_trans h.4 hb.size, fun k hk hne => (hb.block k hk).trans (h.5 k hk hne)⟩
theorem gbAlloc (h : w.grownBy a row) (o : Obj) : w.grownBy (a.alloc o) row :=
  ⟨h.1, h.2, h.3, by have := h.4; simp; omega, fun k hk hne => (Below.heap_alloc a o k (Nat.lt_of_lt_of_le hk h.4)).trans (h.5 k hk hne)⟩
theorem gbBelow (h : w.grownBy a row) (hb : Below a.heap.size a b) : w.grownBy b row :=
  ⟨(hb.os).trans h.1, (hb.tape).trans h.2, (hb.output).trans h.3, Nat.le_trans h.4 hb.size, fun k hk hne => (hb.block k (Nat.lt_of_lt_of_le hk h.4)).trans (h.5 k hk hne)⟩
end
end Go.Proofs.Ytgkghebjaedjmaa
namespace Go.Proofs.Ytgkghebjaedjmaa
open Go.RowKit Go.Shelf
set_option maxRecDepth 8000
set_option linter.unusedVariables false
def EP (w : World) (lo hi : Nat) (u : List Value) (LL : List (List Int)) : Prop := ∃ a c vs, u = [.slice a LL.length c] ∧ OwnLL w lo hi 30 3 (.slice a LL.length c) vs LL
def tsP (t : TypeId) : Bool := t == 3 || t == 30 || t == 43
theorem OwnLL.stayT {ts : TypeId → Bool} {w w' : World} {lo hi : Nat} {eo e : TypeId} {v : Value} {vs : List Value} {LL : List (List Int)} (h : OwnLL w lo hi eo e v vs LL) (hk : Stay ts lo hi w w') (h1 : ts eo = true) (h2 : ts e = true) : OwnLL w' lo hi eo e v vs LL :=
  ⟨h.outer.stayT hk h1, h.len, fun k u L hu hL => (h.inner k u L hu hL).stayT hk h2, h.apartO, h.apart⟩
theorem ep_keep : KeepE EP tsP := ⟨fun {w w' lo hi u x} h hk => by
  obtain ⟨a, c, vs, h1, h2⟩ := h
  exact ⟨a, c, vs, h1, h2.stayT hk (by decide) (by decide)⟩⟩
theorem ep_one (a : Option Addr) (n c : Nat) : ∀ y ∈ [Value.slice a n c], y.oneCell' = true := fun y hy => by rw [List.mem_singleton.1 hy]; rfl
end Go.Proofs.Ytgkghebjaedjmaa
