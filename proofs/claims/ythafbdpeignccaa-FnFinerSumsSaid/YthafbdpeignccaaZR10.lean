/-
  Walks of the model: SquareCut, SquarePut, DoubleParts; the program's DoubleParts. Walks of the model: refining. Walks of the model: Refines.
-/
import Derived.Test.YthafbdpeignccaaZR1
import Derived.Test.YthafbdpeignccaaZR2
import Derived.Test.YthafbdpeignccaaZR3
import Derived.Test.YthafbdpeignccaaZR4
import Derived.Test.YthafbdpeignccaaZR5
import Derived.Test.YthafbdpeignccaaZR6
import Derived.Test.YthafbdpeignccaaZR7
import Derived.Test.YthafbdpeignccaaZR8
import Derived.Test.YthafbdpeignccaaZR9
namespace Go.Proofs.Ythafbdpeignccaa
open Go.RowKit NP
set_option maxRecDepth 8000
set_option linter.unusedVariables false
set_option linter.unusedSimpArgs false
theorem Own.cap {w : World} {lo hi : Nat} {e : TypeId} {a : Option Addr} {n c : Nat} {vs : List Value} (h : Own w lo hi e (.slice a n c) vs) : n ≤ c := by
  rcases h.row.2 with ⟨h1, h2⟩ | ⟨g, cap, cur, hv, _, _, hle, _⟩
  · injection h1 with _ h3 h4; omega
  · injection hv with _ h3 h4; omega
theorem Rd.cutAny {w : World} {B b o cap : Nat} {vs : List Value} (h : Rd w B (some ⟨b, o, none⟩) vs) (q : Nat) (hc : vs.length ≤ cap) : Rd w B (some (if cap = q then ⟨b, o, none⟩ else ⟨b, o + q, none⟩)) (vs.drop q) := by
  by_cases hq : cap = q
  · rw [List.drop_eq_nil_of_le (by omega)]
    exact fun hne => absurd rfl hne
  · rw [if_neg hq]
    exact h.dropAt q
theorem keep_off {w w1 : World} {lo : Nat} {e : TypeId} {v : Value} {vs : List Value} {o : Obj} {n c : Nat} (h : Own w lo w.heap.size e v vs) (hg : (w.alloc o).grownBy w1 (Value.slice (some ⟨w.heap.size, 0, none⟩) n c).ownBlock) : Own w1 lo w1.heap.size e v vs :=
  ((h.alloc o).grown hg (by
    cases hb : v.ownBlock with
    | none => exact .inl rfl
    | some g => exact .inr fun e => by have := h.lt g hb; simp [Value.ownBlock] at e; omega)).more




end Go.Proofs.Ythafbdpeignccaa
namespace Go.Proofs.Ythafbdpeignccaa
open Go.RowKit NP
set_option maxRecDepth 8000
set_option linter.unusedVariables false
set_option linter.unusedSimpArgs false
theorem sum_16 : ∀ {L : List Int}, (∀ x ∈ L, 0 ≤ x ∧ x ≤ 16) → 0 ≤ sumL L ∧ sumL L ≤ 16 * (L.length : Int)
  | [], _ => by simp [sumL]
  | x :: r, h => by
    have h1 := sum_16 (L := r) (fun y hy => h y (by simp [hy]))
    have h2 := h x (by simp)
    simp only [sumL, List.length_cons]
    omega
theorem fits_16 {L : List Int} (h : ∀ x ∈ L, 0 ≤ x ∧ x ≤ 16) (hl : L.length ≤ 16) : sumFits L := fun k hk => by
  have h1 := sum_16 (L := L.take k) (fun x hx => h x (List.mem_of_mem_take hx))
  have h2 : (L.take k).length ≤ 16 := by rw [List.length_take]; omega
  omega
def fitS (x : Int) (r L : List Int) (i : Nat) : Bool := decide (x ≤ L.getD i 0) && !(L.take i).contains (L.getD i 0) && fitsF r (L.set i (L.getD i 0 - x))
theorem fitsF_cons (x : Int) (r L : List Int) : fitsF (x :: r) L = (List.range L.length).any (fitS x r L) := rfl
theorem fitsF_yes {x : Int} {r L : List Int} {i : Nat} (hi : i < L.length) (h : fitS x r L i = true) : fitsF (x :: r) L = true := by
  rw [fitsF_cons, List.any_eq_true]; exact ⟨i, List.mem_range.2 hi, h⟩
theorem fitsF_no {x : Int} {r L : List Int} (h : ∀ i, i < L.length → fitS x r L i = false) : fitsF (x :: r) L = false := by
  rw [fitsF_cons, List.any_eq_false]; intro i hi; rw [h i (List.mem_range.1 hi)]; exact Bool.false_ne_true
set_option maxRecDepth 100000 in
set_option maxHeartbeats 2000000 in
theorem sfits_aux : ∀ (P L : List Int), (∀ x ∈ P, 1 ≤ x ∧ x ≤ 16) → (∀ y ∈ L, 0 ≤ y ∧ y ≤ 16) → L.length ≤ 16 → P.length ≤ 16 → ∀ (a b : Option Addr) (m n ca cb Ba Bb : Nat) (w : World), P.length = m → L.length = n → m ≤ ca → n ≤ cb → Rd w Ba a (ints P) → Rd w Bb b (ints L) → Ba ≤ w.heap.size → Bb ≤ w.heap.size →
    Calls Try.prog 80 #[.slice a m ca, .slice b n cb] w fun e w' => e = .returned (.bool (fitsF P L)) ∧ Below w.heap.size w w' := by
  intro P
  induction P with
  | nil =>
    intro L hP hL hl hm a b m n ca cb Ba Bb w em en hca hcb h hq hBa hBb
    subst em en
    have hf : sumFits L := fits_16 hL hl
    have HF : Hid (fitsF [] L = (sumL L == 0)) := Lib.hid rfl
    rw [HF.out]
    clear h hL hP
    go_enter Try.func80, Try.ntmps80
    go_wp2_with (go_at_call 68; refine (sum_any _ _ Bb L _ hq hf (by omega)).mono ?_; rintro e w2 ⟨rfl, rfl⟩)
    go_ret
    exact ⟨ret_bool (by simp), Below.refl _ _⟩
  | cons x r ih =>
    intro L hP hL hl hm a b m n ca cb Ba Bb w em en hca hcb h hq hBa hBb
    obtain ⟨i0, hi0, hz0, hz1, hz2⟩ := T_int'
    have hmx : Try.prog.follows .mixedOrders = true := by kernel_rfl
    subst en
    obtain ⟨pb, po, rfl, hpb, hcx0⟩ := h.at_ (k := 0) (by simp)
    have hx := hP x (by simp)
    have em' : r.length + 1 = m := by simpa using em
    have HIH := Lib.hid ih
    have HP := Lib.hid hP
    have HLB := Lib.hid hL
    have HM := Lib.hid hm
    have hne : ((m : Int) == 0) = false := beq_eq_false_iff_ne.2 (by omega)
    have hm0 : 0 < m := by omega
    clear hP hL hm em ih
    go_enter Try.func80, Try.ntmps80
    go_wp2_with fail
    go_loopw [5] (fun ii wr => ∃ i : Nat, ii = .int .i64 (i : Int) ∧ i ≤ L.length ∧ Below w.heap.size w wr ∧ Hid (∀ j, j < i → fitS x r L j = false)) (fun ii _ => L.length - (intOf ii).toNat)
    case atStart => exact ⟨0, rfl, Nat.zero_le _, Below.refl _ _, Lib.hid (fun j hj => by omega)⟩
    case round =>
      obtain ⟨i, rfl, hi, hA, HN⟩ := hrel
      have hzr := hA.size
      by_cases hlt : i < L.length
      · have hlt' : (i : Int) < (L.length : Int) := by omega
        have hqr := hq.below (hA.mono hBb)
        have hpr := h.below (hA.mono hBa)
        obtain ⟨bb, bo, rfl, hbb, hcy⟩ := hqr.at_ hlt
        obtain ⟨_, _, e1, _, hcx⟩ := hpr.at_ (k := 0) (by simp)
        injection e1 with e1; injection e1 with e1 e2; subst e1 e2
        rw [Nat.add_zero, List.getElem_cons_zero] at hcx
        have hyb := HLB.out _ (List.getElem_mem hlt)
        have hgd : L.getD i 0 = L[i] := by simp [List.getD_eq_getElem?_getD, hlt]
        have HRQ := Lib.hid (show Rd wr Bb (some ⟨bb, bo, none⟩) (ints (L.take i)) by have := hqr.take i; rwa [← List.map_take] at this)
        have HHI0 : ∀ z : Int, ∀ wq, Dr wr wq → Calls Try.prog 110 #[.slice (some ⟨bb, bo, none⟩) i cb, .int .i64 z] wq fun e w' => e = .returned (.bool (hasI (L.take i) z)) ∧ wq = w' := fun z wq hS => by
          have e := hasInt_any (some ⟨bb, bo, none⟩) cb Bb (L.take i) z wq (HRQ.out.dr hS) (by rw [List.length_take]; omega)
          rwa [show (L.take i).length = i by rw [List.length_take]; omega] at e
        have HRP := Lib.hid hpr
        have HRL := Lib.hid hqr
        obtain ⟨y, hy⟩ : ∃ y, L[i] = y := ⟨_, rfl⟩
        rw [hy] at hcy hyb hgd
        have HST : Hid (fitS x r L i = (decide (x ≤ y) && !(L.take i).contains y && fitsF r (L.set i (y - x)))) := Lib.hid (by unfold fitS; rw [hgd])
        have HNX : Hid (fitS x r L i = false → ∀ j, j < i + 1 → fitS x r L j = false) := Lib.hid (fun h j hj => by
          rcases Nat.lt_or_ge j i with h2 | h2
          · exact HN.out j h2
          · obtain rfl : j = i := by omega
            exact h)
        have HY := Lib.hid hy
        have HHI := Lib.hid (HHI0 y)
        clear HHI0
        have hib : (i : Int) ≤ (cb : Int) := by omega
        clear hgd hy hqr hpr
        go_wp2_with fail
        by_cases hle : x ≤ y
        · have hdle : decide (x ≤ y) = true := decide_eq_true hle
          cases hh : hasI (L.take i) y with
          | true =>
            have HH := Lib.hid hh
            have HS2 : Hid (fitS x r L i = false) := Lib.hid (by
              have : (L.take i).contains y = true := by unfold hasI at hh; simpa using hh
              rw [HST.out, this]; simp)
            clear hh
            refine wp_region_vals [0, 1, 2, 3, 4, 5, 6, 7, 8, 9, 10, 11, 12, 13, 14, 15, 16, 17, 18] [.slice (some ⟨bb, bo, none⟩) L.length cb, .int .i64 (i : Int), .pointer (some ⟨bb, bo + i, none⟩), .int .i64 y, .slice (some ⟨pb, po, none⟩) m ca, .pointer (some ⟨pb, po, none⟩), .int .i64 x, .bool true, .bool true, .slice (some ⟨bb, bo, none⟩) L.length cb, .int .i64 (i : Int), .slice (some ⟨bb, bo, none⟩) i cb, .slice (some ⟨bb, bo, none⟩) L.length cb, .int .i64 (i : Int), .pointer (some ⟨bb, bo + i, none⟩), .int .i64 y, .bool true, .bool false, .bool false] (fun w' => Dr wr w') _ hmx (fun _ h => h) rfl rfl (by kernel_rfl) (by kernel_rfl) rfl ?steps ?rest
            case steps =>
              simp only [putsOfG, Act.put, List.getElem?_toArray, List.getElem?_cons_succ, List.getElem?_cons_zero, Option.bind_some, Nat.reduceAdd, List.setIfInBounds_toArray, List.set_cons_zero, List.set_cons_succ]
              refine StepsG.cons rfl rfl (fun wq hS => ?_) ?_
              · go_simp
              refine StepsG.cons rfl rfl (fun wq hS => ?_) ?_
              · go_simp
              refine StepsG.cons rfl rfl (fun wq hS => ?_) ?_
              · go_simp
              refine StepsG.cons rfl rfl (fun wq hS => ?_) ?_
              · have s1 := cell_dr hS hcy
                go_simp
              refine StepsG.cons rfl rfl (fun wq hS => ?_) ?_
              · go_simp
              refine StepsG.cons rfl rfl (fun wq hS => ?_) ?_
              · go_simp
              refine StepsG.cons rfl rfl (fun wq hS => ?_) ?_
              · have s1 := cell_dr hS hcx
                go_simp
              refine StepsG.cons rfl rfl (fun wq hS => ?_) ?_
              · go_simp
              refine StepsG.cons rfl rfl (fun wq hS => ?_) ?_
              · go_simp
              refine StepsG.cons rfl rfl (fun wq hS => ?_) ?_
              · go_simp
              refine StepsG.cons rfl rfl (fun wq hS => ?_) ?_
              · go_simp
              refine StepsG.cons rfl rfl (fun wq hS => ?_) ?_
              · go_simp
              refine StepsG.cons rfl rfl (fun wq hS => ?_) ?_
              · go_simp
              refine StepsG.cons rfl rfl (fun wq hS => ?_) ?_
              · go_simp
              refine StepsG.cons rfl rfl (fun wq hS => ?_) ?_
              · go_simp
              refine StepsG.cons rfl rfl (fun wq hS => ?_) ?_
              · have s1 := cell_dr hS hcy
                go_simp
              refine StepsG.cons rfl rfl (fun wq hS => ?_) ?_
              · go_simp
                go_at_call 110
                refine (HHI.out _ hS).mono ?_
                rintro e w5 ⟨rfl, rfl⟩
                exact ⟨by rw [HH.out], hS⟩
              refine StepsG.cons rfl rfl (fun wq hS => ?_) ?_
              · go_simp
              refine StepsG.cons rfl rfl (fun wq hS => ?_) ?_
              · go_simp
              exact StepsG.nil
            case rest =>
              intro wq hS
              simp only [putsOfG, Act.put, List.getElem?_toArray, List.getElem?_cons_succ, List.getElem?_cons_zero, Option.bind_some, Nat.reduceAdd, List.setIfInBounds_toArray, List.set_cons_zero, List.set_cons_succ]
              go_wp2_with fail
              go_roundw
              case rel => exact ⟨i + 1, by go_num, by omega, hA.trans (hS.below _), Lib.hid (HNX.out HS2.out)⟩
              case measure => simp [intOf] <;> omega
          | false =>
            have HH := Lib.hid hh
            have HS2 : Hid (fitS x r L i = fitsF r (L.set i (y - x))) := Lib.hid (by
              have : (L.take i).contains y = false := by
                unfold hasI at hh
                rw [Bool.eq_false_iff]; intro hc
                simp at hh hc
                exact hh hc
              rw [HST.out, this, hdle]; simp)
            clear hh
            refine wp_region_vals [0, 1, 2, 3, 4, 5, 6, 7, 8, 9, 10, 11, 12, 13, 14, 15, 16, 17, 18] [.slice (some ⟨bb, bo, none⟩) L.length cb, .int .i64 (i : Int), .pointer (some ⟨bb, bo + i, none⟩), .int .i64 y, .slice (some ⟨pb, po, none⟩) m ca, .pointer (some ⟨pb, po, none⟩), .int .i64 x, .bool true, .bool true, .slice (some ⟨bb, bo, none⟩) L.length cb, .int .i64 (i : Int), .slice (some ⟨bb, bo, none⟩) i cb, .slice (some ⟨bb, bo, none⟩) L.length cb, .int .i64 (i : Int), .pointer (some ⟨bb, bo + i, none⟩), .int .i64 y, .bool false, .bool true, .bool true] (fun w' => Dr wr w') _ hmx (fun _ h => h) rfl rfl (by kernel_rfl) (by kernel_rfl) rfl ?steps ?rest
            case steps =>
              simp only [putsOfG, Act.put, List.getElem?_toArray, List.getElem?_cons_succ, List.getElem?_cons_zero, Option.bind_some, Nat.reduceAdd, List.setIfInBounds_toArray, List.set_cons_zero, List.set_cons_succ]
              refine StepsG.cons rfl rfl (fun wq hS => ?_) ?_
              · go_simp
              refine StepsG.cons rfl rfl (fun wq hS => ?_) ?_
              · go_simp
              refine StepsG.cons rfl rfl (fun wq hS => ?_) ?_
              · go_simp
              refine StepsG.cons rfl rfl (fun wq hS => ?_) ?_
              · have s1 := cell_dr hS hcy
                go_simp
              refine StepsG.cons rfl rfl (fun wq hS => ?_) ?_
              · go_simp
              refine StepsG.cons rfl rfl (fun wq hS => ?_) ?_
              · go_simp
              refine StepsG.cons rfl rfl (fun wq hS => ?_) ?_
              · have s1 := cell_dr hS hcx
                go_simp
              refine StepsG.cons rfl rfl (fun wq hS => ?_) ?_
              · go_simp
              refine StepsG.cons rfl rfl (fun wq hS => ?_) ?_
              · go_simp
              refine StepsG.cons rfl rfl (fun wq hS => ?_) ?_
              · go_simp
              refine StepsG.cons rfl rfl (fun wq hS => ?_) ?_
              · go_simp
              refine StepsG.cons rfl rfl (fun wq hS => ?_) ?_
              · go_simp
              refine StepsG.cons rfl rfl (fun wq hS => ?_) ?_
              · go_simp
              refine StepsG.cons rfl rfl (fun wq hS => ?_) ?_
              · go_simp
              refine StepsG.cons rfl rfl (fun wq hS => ?_) ?_
              · go_simp
              refine StepsG.cons rfl rfl (fun wq hS => ?_) ?_
              · have s1 := cell_dr hS hcy
                go_simp
              refine StepsG.cons rfl rfl (fun wq hS => ?_) ?_
              · go_simp
                go_at_call 110
                refine (HHI.out _ hS).mono ?_
                rintro e w5 ⟨rfl, rfl⟩
                exact ⟨by rw [HH.out], hS⟩
              refine StepsG.cons rfl rfl (fun wq hS => ?_) ?_
              · go_simp
              refine StepsG.cons rfl rfl (fun wq hS => ?_) ?_
              · go_simp
              exact StepsG.nil
            case rest =>
              intro wq hS
              simp only [putsOfG, Act.put, List.getElem?_toArray, List.getElem?_cons_succ, List.getElem?_cons_zero, Option.bind_some, Nat.reduceAdd, List.setIfInBounds_toArray, List.set_cons_zero, List.set_cons_succ]
              have hAq := hA.trans (hS.below _)
              have hzq := hAq.size
              have hqq := HRL.out.dr hS
              have hpq := HRP.out.dr hS
              have hcxq := cell_dr hS hcx
              have HL2 : Hid (∀ z ∈ L.set i (y - x), 0 ≤ z ∧ z ≤ 16) := Lib.hid (fun z hz => by
                rcases List.mem_or_eq_of_mem_set hz with h | h
                · exact HLB.out z h
                · omega)
              have HPR : Hid (∀ z ∈ r, 1 ≤ z ∧ z ≤ 16) := Lib.hid (fun z hz => HP.out z (by simp [hz]))
              have hws : IntKind.i64.wrap (y - x) = y - x := IntWalk.i64_in _ (by omega)
              have hla : 0 < x := by omega
              have HBQ : Hid (Bb ≤ wq.heap.size ∧ Ba ≤ wq.heap.size) := Lib.hid ⟨by omega, by omega⟩
              obtain ⟨w0, hw0⟩ : ∃ w0, w0 = wq := ⟨_, rfl⟩
              rw [← hw0]
              rw [← hw0] at hAq hzq hqq hpq hcxq HBQ
              clear hw0 hS hcx hcy hla
              go_wp2_with (at_builtin; refine wpList_append_o _ rfl (.tmp 38) (.tmp 39) 22 rfl w0.heap.size (w0.heap.size + 1) 3 i0 (.int .i64 0) 8 Try.underlying22 hi0 hz0 hz1 hz2 rfl _ [] rfl (Own.empty w0 3) Bb (some ⟨bb, bo, none⟩) L.length cb (ints L) rfl (hqq.alloc HBQ.out.1 _) (by simp) (ints_one L) (by simp; unfold maxLen; omega) (by simp; omega) (by simp) ?_; intro v' w1 ho1 hg1 hat1; rw [List.nil_append] at ho1; obtain ⟨g, c1, hv', hlog, hghi, hcell, hfz⟩ := ho1.at_ (k := i) (by simpa using hlt); have hcap : L.length ≤ c1 := (by obtain ⟨g', c', e', hc'⟩ := ho1.formN (by simp; omega); rw [hv'] at e'; injection e' with _ _ e5; simp at hc'; omega); subst hv'; clear hat1; have hcelli : w1.cell? ⟨g, i, none⟩ = some (.int .i64 y) := by rw [hcell]; simp [HY.out])
              have hb1 : Below w0.heap.size w0 w1 := ((Below.refl _ _).alloc (Nat.le_refl _) _).grown hg1 (by simp) (fun x hx => by injection hx with hx; subst hx; exact Nat.le_refl _)
              have hpp := hpq.below (hb1.mono HBQ.out.2)
              have hcx1 : w1.cell? ⟨pb, po, none⟩ = some (.int .i64 x) := (hb1.cell (p := ⟨pb, po, none⟩) (by show pb < w0.heap.size; have := HBQ.out.2; omega)).trans hcxq
              have hl1 : (ints L).length = L.length := by simp
              rw [hl1] at ho1
              try rw [hl1]
              have HO1 := Lib.hid ho1
              have HW : Hid (w0.heap.size ≤ g) := Lib.hid hlog
              have HPP := Lib.hid hpp
              clear ho1 hcell hcxq hqq hpq hg1 hpp hl1
              refine wp_region_store [0, 1, 2, 3, 4, 5, 6, 7, 8, 9, 10] [.slice (some ⟨g, 0, none⟩) L.length c1, .int .i64 (i : Int), .slice (some ⟨g, 0, none⟩) L.length c1, .int .i64 (i : Int), .pointer (some ⟨g, i, none⟩), .int .i64 y, .slice (some ⟨pb, po, none⟩) m ca, .pointer (some ⟨pb, po, none⟩), .int .i64 x, .int .i64 (y - x), .pointer (some ⟨g, i, none⟩)] (fun w' => Dr w1 w') _ hmx (fun _ h => h) rfl (by kernel_rfl) (by kernel_rfl) rfl rfl (by kernel_rfl) (by kernel_rfl) _ rfl rfl rfl 3 _ _ rfl ⟨g, i, none⟩ (.int .i64 (y - x)) ?hx ?hy ?run ?steps ?rest
              case hx => simp only [putsOfG, Act.put, List.getElem?_toArray, List.getElem?_cons_succ, List.getElem?_cons_zero, Option.bind_some, Nat.reduceAdd, List.setIfInBounds_toArray, List.set_cons_zero, List.set_cons_succ]; rfl
              case hy => simp only [putsOfG, Act.put, List.getElem?_toArray, List.getElem?_cons_succ, List.getElem?_cons_zero, Option.bind_some, Nat.reduceAdd, List.setIfInBounds_toArray, List.set_cons_zero, List.set_cons_succ]; rfl
              case run =>
                intro wp hS
                have s1 := cell_dr hS hcelli
                have s3 := froz_dr hS hfz
                go_simp
              case steps =>
                simp only [putsOfG, Act.put, List.getElem?_toArray, List.getElem?_cons_succ, List.getElem?_cons_zero, Option.bind_some, Nat.reduceAdd, List.setIfInBounds_toArray, List.set_cons_zero, List.set_cons_succ]
                refine StepsG.cons rfl rfl (fun wq hS => ?_) ?_
                · go_simp
                refine StepsG.cons rfl rfl (fun wq hS => ?_) ?_
                · go_simp
                refine StepsG.cons rfl rfl (fun wq hS => ?_) ?_
                · go_simp
                refine StepsG.cons rfl rfl (fun wq hS => ?_) ?_
                · go_simp
                refine StepsG.cons rfl rfl (fun wq hS => ?_) ?_
                · go_simp
                refine StepsG.cons rfl rfl (fun wq hS => ?_) ?_
                · have s1 := cell_dr hS hcelli
                  go_simp
                refine StepsG.cons rfl rfl (fun wq hS => ?_) ?_
                · go_simp
                refine StepsG.cons rfl rfl (fun wq hS => ?_) ?_
                · go_simp
                refine StepsG.cons rfl rfl (fun wq hS => ?_) ?_
                · have s1 := cell_dr hS hcx1
                  go_simp
                refine StepsG.cons rfl rfl (fun wq hS => ?_) ?_
                · go_simp
                refine StepsG.cons rfl rfl (fun wq hS => ?_) ?_
                · go_simp
                exact StepsG.nil
              case rest =>
                intro wp hS
                simp only [putsOfG, Act.put, List.getElem?_toArray, List.getElem?_cons_succ, List.getElem?_cons_zero, Option.bind_some, Nat.reduceAdd, List.setIfInBounds_toArray, List.set_cons_zero, List.set_cons_succ]
                have ho2 := (HO1.out.dr hS).set i (.int .i64 (y - x))
                rw [show (ints L).set i (.int .i64 (y - x)) = ints (L.set i (y - x)) by simp [ints, List.map_set]] at ho2
                have hbs : Below w0.heap.size w0 (wp.setCell ⟨g, i, none⟩ (.int .i64 (y - x))) := (hb1.trans ((hS.below _).mono hb1.size)).setCell (by exact HW.out) _
                obtain ⟨w2, hw2⟩ : ∃ w2, wp.setCell ⟨g, i, none⟩ (.int .i64 (y - x)) = w2 := ⟨_, rfl⟩
                rw [hw2] at ho2 hbs ⊢
                have hA2 := hAq.trans (hbs.mono hzq)
                have hsz2 := hA2.size
                have HBA : Hid (Ba ≤ w2.heap.size) := Lib.hid (by omega)
                have hp2 := h.below (hA2.mono hBa)
                have hp3 := hp2.cutAny (cap := ca) 1 (by simp; omega)
                rw [show (ints (x :: r)).drop 1 = ints r from rfl] at hp3
                have HO2 := Lib.hid ho2
                clear hp2 ho2 hw2 hcelli hfz hcx1 hb1 hS
                have HP3 : Hid (Rd w2 Ba (if ca = 1 then some ⟨pb, po, none⟩ else some ⟨pb, po + 1, none⟩) (ints r)) := Lib.hid (by
                  by_cases e : ca = 1
                  · rw [if_pos e] at hp3 ⊢; exact hp3
                  · rw [if_neg e] at hp3 ⊢; exact hp3)
                clear hp3
                cases hbres : fitsF r (L.set i (y - x)) with
                | true =>
                  have HBR := Lib.hid hbres
                  clear hbres
                  have HE : Hid (fitsF (x :: r) L = true) := Lib.hid (fitsF_yes hlt (by rw [HS2.out, HBR.out]))
                  go_wp2_with (go_at_call 80; refine (HIH.out (L.set i (y - x)) HPR.out HL2.out (by rw [List.length_set]; exact hl) (by have := HM.out; simp at this; omega) _ _ (m - 1) L.length (ca - 1) c1 Ba _ _ (by omega) (by rw [List.length_set]) (by omega) hcap HP3.out HO2.out.rd HBA.out HO2.out.le).mono ?_; rintro e w9 ⟨rfl, hb9⟩; rw [HBR.out])
                  all_goals
                    have hA9 := hA2.trans (hb9.mono hsz2)
                    go_ret
                    exact ⟨ret_bool HE.out.symm, hA9⟩
                | false =>
                  have HBR := Lib.hid hbres
                  clear hbres
                  have HE := Lib.hid (HNX.out (by rw [HS2.out, HBR.out]))
                  go_wp2_with (go_at_call 80; refine (HIH.out (L.set i (y - x)) HPR.out HL2.out (by rw [List.length_set]; exact hl) (by have := HM.out; simp at this; omega) _ _ (m - 1) L.length (ca - 1) c1 Ba _ _ (by omega) (by rw [List.length_set]) (by omega) hcap HP3.out HO2.out.rd HBA.out HO2.out.le).mono ?_; rintro e w9 ⟨rfl, hb9⟩; rw [HBR.out])
                  all_goals
                    have hA9 := hA2.trans (hb9.mono hsz2)
                    go_roundw
                    case rel => exact ⟨i + 1, by go_num, by omega, hA9, HE⟩
                    case measure => simp [intOf] <;> omega
        · have hdle : decide (x ≤ y) = false := decide_eq_false hle
          have HS2 : Hid (fitS x r L i = false) := Lib.hid (by rw [HST.out, hdle]; rfl)
          refine wp_region_vals [0, 1, 2, 3, 4, 5, 6, 7, 8, 9, 10, 11, 12, 13, 14, 15, 16, 17, 18] [.slice (some ⟨bb, bo, none⟩) L.length cb, .int .i64 (i : Int), .pointer (some ⟨bb, bo + i, none⟩), .int .i64 y, .slice (some ⟨pb, po, none⟩) m ca, .pointer (some ⟨pb, po, none⟩), .int .i64 x, .bool false, .bool false, undef, undef, undef, undef, undef, undef, undef, undef, undef, .bool false] (fun w' => Dr wr w') _ hmx (fun _ h => h) rfl rfl (by kernel_rfl) (by kernel_rfl) rfl ?steps ?rest
          case steps =>
            simp only [putsOfG, Act.put, List.getElem?_toArray, List.getElem?_cons_succ, List.getElem?_cons_zero, Option.bind_some, Nat.reduceAdd, List.setIfInBounds_toArray, List.set_cons_zero, List.set_cons_succ]
            refine StepsG.cons rfl rfl (fun wq hS => ?_) ?_
            · go_simp
            refine StepsG.cons rfl rfl (fun wq hS => ?_) ?_
            · go_simp
            refine StepsG.cons rfl rfl (fun wq hS => ?_) ?_
            · go_simp
            refine StepsG.cons rfl rfl (fun wq hS => ?_) ?_
            · have s1 := cell_dr hS hcy
              go_simp
            refine StepsG.cons rfl rfl (fun wq hS => ?_) ?_
            · go_simp
            refine StepsG.cons rfl rfl (fun wq hS => ?_) ?_
            · go_simp
            refine StepsG.cons rfl rfl (fun wq hS => ?_) ?_
            · have s1 := cell_dr hS hcx
              go_simp
            refine StepsG.cons rfl rfl (fun wq hS => ?_) ?_
            · go_simp
            refine StepsG.cons rfl rfl (fun wq hS => ?_) ?_
            · go_simp
            refine StepsG.skip rfl rfl rfl ?_
            refine StepsG.skip rfl rfl rfl ?_
            refine StepsG.skip rfl rfl rfl ?_
            refine StepsG.skip rfl rfl rfl ?_
            refine StepsG.skip rfl rfl rfl ?_
            refine StepsG.skip rfl rfl rfl ?_
            refine StepsG.skip rfl rfl rfl ?_
            refine StepsG.skip rfl rfl rfl ?_
            refine StepsG.skip rfl rfl rfl ?_
            refine StepsG.cons rfl rfl (fun wq hS => ?_) ?_
            · go_simp
            exact StepsG.nil
          case rest =>
            intro wq hS
            simp only [putsOfG, Act.put, List.getElem?_toArray, List.getElem?_cons_succ, List.getElem?_cons_zero, Option.bind_some, Nat.reduceAdd, List.setIfInBounds_toArray, List.set_cons_zero, List.set_cons_succ]
            go_wp2_with fail
            go_roundw
            case rel => exact ⟨i + 1, by go_num, by omega, hA.trans (hS.below _), Lib.hid (HNX.out HS2.out)⟩
            case measure => simp [intOf] <;> omega
      · obtain rfl : i = L.length := by omega
        have HE : Hid (fitsF (x :: r) L = false) := Lib.hid (fitsF_no fun j hj => HN.out j hj)
        clear hlt
        go_wp2_with fail
        go_ret
        exact ⟨ret_bool HE.out.symm, hA⟩
end Go.Proofs.Ythafbdpeignccaa
namespace Go.Proofs.Ythafbdpeignccaa
open Go.RowKit NP
set_option maxRecDepth 8000
set_option linter.unusedVariables false
set_option linter.unusedSimpArgs false
set_option maxHeartbeats 1000000 in
theorem sRefines_any (a b : Option Addr) (ca cb Ba Bb : Nat) (P Q : List Int) (w : World) (h : Rd w Ba a (ints P)) (hq : Rd w Bb b (ints Q)) (hBa : Ba ≤ w.heap.size) (hBb : Bb ≤ w.heap.size) (hl : P.length ≤ 4611686018427387904) (hlq : Q.length ≤ 4611686018427387904) (hca : P.length ≤ ca) (hcb : Q.length ≤ cb) :
    Calls Try.prog 38 #[.slice a P.length ca, .slice b Q.length cb] w fun e w' => e = .returned (.bool (rfF P Q)) ∧ Below w.heap.size w w' := by
  cases hvp : valid P with
  | false =>
    have HP := Lib.hid hvp
    have HI : Hid (rfF P Q = false) := Lib.hid (by unfold rfF; rw [hvp]; rfl)
    clear hvp
    go_enter Try.func38, Try.ntmps38
    go_wp2_with (go_at_call 48; refine (validParts_any _ _ Ba P _ h hl).mono ?_; rintro e w1 ⟨rfl, hd1⟩; replace hd1 : Dr w w1 := hd1; rw [HP.out])
    go_ret
    exact ⟨ret_bool HI.out.symm, hd1.below _⟩
  | true =>
    have HP := Lib.hid hvp
    cases hvq : valid Q with
    | false =>
      have HQ := Lib.hid hvq
      have HI : Hid (rfF P Q = false) := Lib.hid (by unfold rfF; rw [hvp, hvq]; rfl)
      clear hvp hvq
      go_enter Try.func38, Try.ntmps38
      go_wp2_with (first
      | (go_at_call 48; refine (validParts_any _ _ Bb Q _ (hq.dr hd1) hlq).mono ?_; rintro e w2 ⟨rfl, hd2⟩; replace hd2 : Dr w1 w2 := hd2; rw [HQ.out])
      | (go_at_call 48; refine (validParts_any _ _ Ba P _ h hl).mono ?_; rintro e w1 ⟨rfl, hd1⟩; replace hd1 : Dr w w1 := hd1; rw [HP.out]))
      go_ret
      exact ⟨ret_bool HI.out.symm, (hd1.trans hd2).below _⟩
    | true =>
      have HQ := Lib.hid hvq
      have hpl := (valid_bd hvp).2.2.2
      have hql := (valid_bd hvq).2.2.2
      have HFP := Lib.hid (valid_fits hvp)
      have HFQ := Lib.hid (valid_fits hvq)
      have HEP := Lib.hid (valid_each hvp)
      have HEQ : Hid (∀ y ∈ Q, 0 ≤ y ∧ y ≤ 16) := Lib.hid (fun y hy => by have := valid_each hvq y hy; omega)
      obtain ⟨s, hs⟩ : ∃ s, sumL P = s := ⟨_, rfl⟩
      obtain ⟨t, ht⟩ : ∃ t, sumL Q = t := ⟨_, rfl⟩
      have HS := Lib.hid hs
      have HT := Lib.hid ht
      have hRF : rfF P Q = (decide (s = t) && fitsF P Q) := by unfold rfF; rw [hvp, hvq, hs, ht]; rfl
      clear hvp hvq hs ht
      by_cases hst : s = t
      · subst hst
        have HI : Hid (rfF P Q = fitsF P Q) := Lib.hid (by rw [hRF]; simp)
        clear hRF
        go_enter Try.func38, Try.ntmps38
        go_wp2_with (first
          | (have hmk2 := hmk; go_at_call 68; refine (sum_any _ _ Bb Q _ (hq.dr (hd1.trans hd2)) HFQ.out hlq).mono ?_; rintro e wv ⟨rfl, rfl⟩; rw [HT.out])
          | (go_at_call 68; refine (sum_any _ _ Ba P _ (h.dr (hd1.trans hd2)) HFP.out hl).mono ?_; rintro e wv ⟨rfl, rfl⟩; rw [HS.out]; have hmk := True.intro)
          | (go_at_call 80; refine (sfits_aux P Q HEP.out HEQ.out hql hpl _ _ _ _ _ _ Ba Bb _ rfl rfl hca hcb (h.dr (hd1.trans hd2)) (hq.dr (hd1.trans hd2)) (by have := (hd1.trans hd2).size; omega) (by have := (hd1.trans hd2).size; omega)).mono ?_; rintro e w9 ⟨rfl, hb9⟩)
          | (go_at_call 48; refine (validParts_any _ _ Bb Q _ (hq.dr hd1) hlq).mono ?_; rintro e w2 ⟨rfl, hd2⟩; replace hd2 : Dr w1 w2 := hd2; rw [HQ.out])
          | (go_at_call 48; refine (validParts_any _ _ Ba P _ h hl).mono ?_; rintro e w1 ⟨rfl, hd1⟩; replace hd1 : Dr w w1 := hd1; rw [HP.out]))
        go_ret
        exact ⟨ret_bool HI.out.symm, ((hd1.trans hd2).below _).trans (hb9.mono (by have := (hd1.trans hd2).size; omega))⟩
      · have HI : Hid (rfF P Q = false) := Lib.hid (by rw [hRF, decide_eq_false hst]; rfl)
        have hdst : decide (s = t) = false := decide_eq_false hst
        clear hRF
        go_enter Try.func38, Try.ntmps38
        go_wp2_with (first
          | (have hmk2 := hmk; go_at_call 68; refine (sum_any _ _ Bb Q _ (hq.dr (hd1.trans hd2)) HFQ.out hlq).mono ?_; rintro e wv ⟨rfl, rfl⟩; rw [HT.out])
          | (go_at_call 68; refine (sum_any _ _ Ba P _ (h.dr (hd1.trans hd2)) HFP.out hl).mono ?_; rintro e wv ⟨rfl, rfl⟩; rw [HS.out]; have hmk := True.intro)
          | (go_at_call 48; refine (validParts_any _ _ Bb Q _ (hq.dr hd1) hlq).mono ?_; rintro e w2 ⟨rfl, hd2⟩; replace hd2 : Dr w1 w2 := hd2; rw [HQ.out])
          | (go_at_call 48; refine (validParts_any _ _ Ba P _ h hl).mono ?_; rintro e w1 ⟨rfl, hd1⟩; replace hd1 : Dr w w1 := hd1; rw [HP.out]))
        go_ret
        exact ⟨ret_bool HI.out.symm, (hd1.trans hd2).below _⟩
end Go.Proofs.Ythafbdpeignccaa
