/-
  A region that draws its order: the first operations yield their values, the rest go one after another.
-/
import Derived.Test.YthafbdpeignccaaW107
import Derived.Tactics
namespace Go.Proofs.Ythafbdpeignccaa
open Go.RowKit
set_option linter.unusedVariables false
/-- only these come up, in this order -/
def seqIdx (md : Region.Mode) (ops : Array Oper) : Array Bool → List Nat → Bool
  | listed, [] => (Region.ready md ops listed).isEmpty
  | listed, i :: is => Region.ready md ops listed == [i] && seqIdx md ops (listed.setIfInBounds i true) is
section
variable {P : Program} {ops : Array Oper} {Q : Exit → Act → World → Prop} {md : Region.Mode}
theorem wpAny_seq : ∀ (is : List Nat) (l : List Oper) (listed : Array Bool) (a : Act) (w : World), seqIdx md ops listed is = true → is.map (fun i => ops[i]?) = l.map some → wpList P ops Q l a w → wpAny P md ops Q is.length listed a w := by
  intro is
  induction is with
  | nil =>
    intro l listed a w hs hl h
    cases l with
    | nil =>
      unfold seqIdx at hs
      exact ⟨by simpa using hs, h⟩
    | cons o l => simp at hl
  | cons i is ih =>
    intro l listed a w hs hl h
    cases l with
    | nil => simp at hl
    | cons o l =>
      simp only [List.map_cons, List.cons.injEq] at hl
      unfold seqIdx at hs
      simp only [Bool.and_eq_true, beq_iff_eq] at hs
      refine ⟨fun h0 => absurd h0 (by rw [hs.1]; simp), fun j hj => ?_⟩
      rw [hs.1, List.mem_singleton] at hj
      subst hj
      unfold wpOp
      rw [hl.1]
      unfold wpList at h
      simp only
      split
      · rename_i hw
        rw [if_pos hw] at h
        exact h.imp (Oper.wp_mono fun a w hh => ih l _ a w hs.2 hl.2 hh) id
      · rename_i hw
        rw [if_neg hw] at h
        exact ih l _ _ _ hs.2 hl.2 h
/-- the first operations yield their values (vs) in whatever world of the kind S; the rest (l) go one after another -/
theorem wp_region_then {id : Nat} {a : Act} {w : World} (zl : List Nat) (vs : List Value) (S : World → Prop) (az : Act) (hm : P.follows .mixedOrders = true) (hS : ∀ y, Dr w y → S y) (haz : putsOfG ops 0 vs a = az)
    (hok : regOkG .any ops vs.length = true) (hup : regUpG .any ops vs.length = true) (hzl : List.range vs.length = zl) (is : List Nat) (his : is.length = ops.size - vs.length)
    (hsq : seqIdx .any ops (Array.replicate vs.length true ++ Array.replicate (ops.size - vs.length) false) is = true) (l : List Oper) (hl : is.map (fun i => ops[i]?) = l.map some) (hstep : StepsG P ops S az zl)
    (hrest : ∀ w', S w' → wpList P ops Q l az w') : (Code.region id ops true).wp P Q a w := by
  refine wp_region_vals_rest zl vs S az hm hS haz hok hup hzl hstep fun w' hw => ?_
  rw [← his]
  exact wpAny_seq is l _ _ _ (by rw [his]; exact hsq) hl (hrest w' hw)
theorem fm_all {α β : Type} (f : α → Option β) : ∀ is : List α, (is.filterMap f).length = is.length → is.map f = (is.filterMap f).map some := by
  intro is
  induction is with
  | nil => intro _; rfl
  | cons i is ih =>
    intro h
    have hle := List.length_filterMap_le f is
    cases hf : f i with
    | none => rw [List.filterMap_cons_none hf, List.length_cons] at h; omega
    | some b =>
      rw [List.filterMap_cons_some hf, List.length_cons, List.length_cons] at h
      rw [List.filterMap_cons_some hf, List.map_cons, List.map_cons, hf, ih (by omega)]
/-- the same, the rest named by their numbers -/
theorem wp_region_seq {id : Nat} {a : Act} {w : World} (zl : List Nat) (vs : List Value) (S : World → Prop) (az : Act) (hm : P.follows .mixedOrders = true) (hS : ∀ y, Dr w y → S y) (haz : putsOfG ops 0 vs a = az)
    (hok : regOkG .any ops vs.length = true) (hup : regUpG .any ops vs.length = true) (hzl : List.range vs.length = zl) (is : List Nat) (his : is.length = ops.size - vs.length)
    (hsq : seqIdx .any ops (Array.replicate vs.length true ++ Array.replicate (ops.size - vs.length) false) is = true) (hl : (is.filterMap fun i => ops[i]?).length = is.length) (hstep : StepsG P ops S az zl)
    (hrest : ∀ w', S w' → wpList P ops Q (is.filterMap fun i => ops[i]?) az w') : (Code.region id ops true).wp P Q a w :=
  wp_region_then zl vs S az hm hS haz hok hup hzl is his hsq _ (fm_all _ _ hl) hstep hrest
end
end Go.Proofs.Ythafbdpeignccaa
