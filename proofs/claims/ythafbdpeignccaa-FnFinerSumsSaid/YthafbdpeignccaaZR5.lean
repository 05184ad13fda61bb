/-
  Plain mathematics: falling numbers are told by how often each comes; parts written from a tally. No Go text. Walks of the program: how often each number comes. Walks: tallies of the program written as diagrams. Mathematics: squares cut off and put back; doubled parts. Plain mathematics of arms and legs (Frobenius). Plain mathematics: arms and legs of the parts that were made of them. Mathematics: kinds of parts; stairs, hooks of own conjugates, Franklin's map. Plain mathematics: equal parts put together and taken apart again. Plain mathematics: equal parts put together and taken apart again, for every number of them. A row loaded under a guard that holds.
-/
import Derived.Test.YthafbdpeignccaaZR1
import Derived.Test.YthafbdpeignccaaZR2
import Derived.Test.YthafbdpeignccaaZR3
import Derived.Test.YthafbdpeignccaaZR4
import Derived.StillTailTactics
namespace Go.Proofs.Ythafbdpeignccaa
namespace NP
set_option linter.unusedVariables false
theorem mono_uniq {A B : List Int} (hA : mono A) (hB : mono B) (h : ∀ k, eqc k A = eqc k B) (hl : A.length = B.length) : A = B := by
  induction A generalizing B with
  | nil => exact (List.eq_nil_of_length_eq_zero (by simp at hl; omega)).symm
  | cons x r ih =>
    cases B with
    | nil => simp at hl
    | cons y s =>
      have hx : x ∈ y :: s := eqc_mem (by rw [← h x]; exact eqc_pos (by simp))
      have hy : y ∈ x :: r := eqc_mem (by rw [h y]; exact eqc_pos (by simp))
      have e : x = y := by
        rcases List.mem_cons.1 hx with e | e
        · exact e
        · rcases List.mem_cons.1 hy with e2 | e2
          · exact e2.symm
          · have := hB.1 x e; have := hA.1 y e2; omega
      subst e
      congr 1
      exact ih hA.2 hB.2 (fun k => by have := h k; rw [eqc_cons, eqc_cons] at this; omega) (by simpa using hl)
/-- parts from 16 down, m numbers of them, each as often as it comes in L -/
def dscA (L : List Int) : Nat → List Int
  | 0 => []
  | m + 1 => dscA L m ++ List.replicate (eqc ((16 : Int) - m) L).toNat ((16 : Int) - m)
theorem dscA_low (L : List Int) (m : Nat) : ∀ x ∈ dscA L m, (16 : Int) - m < x := by
  induction m with
  | zero => intro x hx; simp [dscA] at hx
  | succ m ih =>
    intro x hx
    rcases List.mem_append.1 hx with hx | hx
    · have := ih x hx; omega
    · have := (List.mem_replicate.1 hx).2; omega
theorem mono_rep (n : Nat) (x : Int) : mono (List.replicate n x) := by
  induction n with
  | zero => exact trivial
  | succ n ih => exact ⟨fun y hy => by have := (List.mem_replicate.1 hy).2; omega, ih⟩
theorem dscA_mono (L : List Int) (m : Nat) : mono (dscA L m) := by
  induction m with
  | zero => exact trivial
  | succ m ih =>
    refine mono_append ih (mono_rep _ _) fun a ha b hb => ?_
    have h1 := dscA_low L m a ha
    have h2 := (List.mem_replicate.1 hb).2
    omega
theorem eqc_out {L : List Int} {k : Int} (h : k ∉ L) : eqc k L = 0 := by
  have h1 := eqc_bd k L
  rcases Int.lt_or_le 0 (eqc k L) with h2 | h2
  · exact absurd (eqc_mem h2) h
  · omega
theorem dscA_eqc (L : List Int) (m : Nat) (k : Int) : eqc k (dscA L m) = if (16 : Int) - m < k ∧ k ≤ 16 then eqc k L else 0 := by
  induction m with
  | zero => simp [dscA, eqc]; omega
  | succ m ih =>
    have hb := eqc_bd ((16 : Int) - m) L
    rw [dscA, eqc_append, ih, eqc_replicate]
    by_cases h1 : (16 : Int) - m = k
    · subst h1
      rw [if_neg (by omega), if_pos rfl, if_pos (by omega)]
      omega
    · rw [if_neg h1]
      by_cases h2 : (16 : Int) - m < k ∧ k ≤ 16
      · rw [if_pos h2, if_pos (by omega)]; omega
      · rw [if_neg h2, if_neg (by omega)]; omega
theorem eqc_len {A B : List Int} (h : ∀ k, eqc k A = eqc k B) : A.length = B.length := by
  induction A generalizing B with
  | nil =>
    cases B with
    | nil => rfl
    | cons y s => have := h y; rw [eqc_cons] at this; have := (eqc_bd y s).1; simp [eqc] at *; omega
  | cons x r ih =>
    have hx : x ∈ B := eqc_mem (by rw [← h x]; exact eqc_pos (by simp))
    obtain ⟨b1, b2, rfl⟩ := List.append_of_mem hx
    have := ih (B := b1 ++ b2) (fun k => by
      have := h k
      rw [eqc_cons, eqc_append, eqc_cons] at this
      rw [eqc_append]; omega)
    simp at this ⊢; omega
theorem dscA_all' {L : List Int} (h : ∀ x ∈ L, 1 ≤ x ∧ x ≤ 16) (m : Nat) (hm : m = 16) : dscA L m = mrg L := by
  have hq : ∀ k, eqc k (dscA L m) = eqc k (mrg L) := fun k => by
    rw [dscA_eqc, mrg_eqc]
    by_cases hk : (16 : Int) - (m : Int) < k ∧ k ≤ 16
    · rw [if_pos hk]
    · rw [if_neg hk]
      exact (eqc_out (fun hx => hk (by have := h k hx; omega))).symm
  exact mono_uniq (dscA_mono L m) (mrg_mono L) hq (eqc_len hq)
theorem dscA_all {L : List Int} (h : ∀ x ∈ L, 1 ≤ x ∧ x ≤ 16) : dscA L 16 = mrg L := dscA_all' h 16 rfl
theorem dscA_le (L : List Int) {j m : Nat} (h : j ≤ m) : (dscA L j).length ≤ (dscA L m).length := by
  induction m with
  | zero => obtain rfl : j = 0 := by omega
            exact Nat.le_refl _
  | succ m ih =>
    rcases Nat.lt_or_ge j (m + 1) with h1 | h1
    · have := ih (by omega); rw [dscA, List.length_append]; omega
    · obtain rfl : j = m + 1 := by omega
      exact Nat.le_refl _
theorem vsm_each {L : List Int} (h : vsm L = true) : ∀ x ∈ L, 1 ≤ x ∧ x ≤ 16 := by
  intro x hx
  obtain ⟨k, hk, rfl⟩ := List.getElem_of_mem hx
  have h1 := vsm_bd (vsm_take h k)
  have h2 := vsm_bd (vsm_take h (k + 1))
  rw [sumL_take_succ L k hk] at h2
  exact ⟨(vsm_iff.1 h).1 _ (List.getElem_mem hk), by omega⟩
theorem mrg_ok {L : List Int} (h : vsm L = true) : valid (mrg L) = true :=
  valid_mono (mrg_mono L) (fun x hx => ((vsm_each h) x (mrg_mem hx)).1) (by rw [mrg_sum]; exact (vsm_iff.1 h).2)
theorem dscA_len {L : List Int} (h : vsm L = true) {m : Nat} (hm : m ≤ 16) : (dscA L m).length ≤ 16 := by
  have h1 := dscA_le L hm
  rw [dscA_all (vsm_each h), mrg_len] at h1
  have := (vsm_bd h).2.2.2
  omega
/-- the parts of summands -/
def posF (L : List Int) : List Int := if vsm L = true then mrg L else []
theorem posF_yes {L : List Int} (h : vsm L = true) : posF L = mrg L := by unfold posF; rw [if_pos h]
theorem posF_no {L : List Int} (h : vsm L = false) : posF L = [] := by unfold posF; rw [if_neg (by rw [h]; decide)]
theorem posF_len (L : List Int) : (posF L).length ≤ 16 := by
  cases h : vsm L with
  | true => rw [posF_yes h, mrg_len]; exact (vsm_bd h).2.2.2
  | false => rw [posF_no h]; simp
theorem posF_valid (L : List Int) : valid (posF L) = true := by
  cases h : vsm L with
  | true => rw [posF_yes h]; exact mrg_ok h
  | false => rw [posF_no h]; rfl
theorem vsm_of_valid {L : List Int} (h : valid L = true) : vsm L = true := vsm_iff.2 ⟨valid_ge1 h, (valid_bd h).2.1⟩
theorem mrg_of_mono {L : List Int} (h : mono L) : mrg L = L := mono_uniq (mrg_mono L) h (fun k => mrg_eqc L k) (mrg_len L)
theorem mono_of_valid {L : List Int} (h : valid L = true) : mono L := by
  have hp := preS_of_valid h
  have hstep : ∀ k (hk : k + 1 < L.length), L[k + 1] ≤ L[k] := fun k hk => by
    have := (hp (k + 1) hk hk).2.2 (by omega)
    simpa using this
  clear h hp
  induction L with
  | nil => exact trivial
  | cons x r ih =>
    refine ⟨fun y hy => ?_, ih (fun k hk => by have := hstep (k + 1) (by simpa using hk); simpa using this)⟩
    obtain ⟨j, hj, rfl⟩ := List.getElem_of_mem hy
    have : ∀ j (hj : j < (x :: r).length), (x :: r)[j] ≤ x := by
      intro j
      induction j with
      | zero => intro _; exact Int.le_refl _
      | succ j ihj =>
        intro hj
        have h1 := hstep j hj
        have h2 := ihj (by omega)
        omega
    have := this (j + 1) (by simpa using hj)
    simpa using this
theorem eqc_rev (k : Int) (L : List Int) : eqc k L.reverse = eqc k L := by
  induction L with
  | nil => rfl
  | cons x r ih => rw [List.reverse_cons, eqc_append, ih, eqc_cons, eqc_cons]; simp [eqc]; omega
theorem mrg_rev (L : List Int) : mrg L.reverse = mrg L :=
  mono_uniq (mrg_mono _) (mrg_mono _) (fun k => by rw [mrg_eqc, mrg_eqc, eqc_rev]) (by rw [mrg_len, mrg_len, List.length_reverse])
/-- how often each number from 0 to 16 comes -/
def tlyL (L : List Int) : List Int := (List.range 17).map fun (v : Nat) => eqc v L
theorem tlyL_len (L : List Int) : (tlyL L).length = 17 := by simp [tlyL]
theorem tlyL_at (L : List Int) {v : Nat} (h : v < 17) : (tlyL L)[v]'(by rw [tlyL_len]; exact h) = eqc v L := by simp [tlyL]
theorem tlyL_next (L : List Int) {x : Nat} (hx : x < 17) : (tlyL L).set x (eqc x L + 1) = tlyL (L ++ [(x : Int)]) := by
  apply List.ext_getElem
  · simp [tlyL]
  · intro v h1 h2
    have hv : v < 17 := by simpa [tlyL] using h2
    rw [List.getElem_set]
    by_cases e : x = v
    · subst e
      rw [if_pos rfl, tlyL_at _ hv, eqc_append]
      simp [eqc]
    · rw [if_neg e, tlyL_at _ hv, tlyL_at _ hv, eqc_append]
      have : ¬ (x : Int) = (v : Int) := by omega
      simp [eqc, this]
end NP
end Go.Proofs.Ythafbdpeignccaa
namespace Go.Proofs.Ythafbdpeignccaa
open Go.RowKit NP
set_option maxRecDepth 8000
set_option linter.unusedVariables false
theorem T_tal : (Try.prog.info? 81).map (·.size) = some 17 := by kernel_rfl
set_option maxHeartbeats 1000000 in
theorem tallyOf_any (a : Option Addr) (c B : Nat) (L : List Int) (w : World) (h : Rd w B a (ints L)) (hB : B ≤ w.heap.size) (hv : vsm L = true) :
    Calls Try.prog 93 #[.slice a L.length c] w fun e w' => e = .returned (.agg (arr (tlyL L))) ∧ Below w.heap.size w w' := by
  have hln := (vsm_bd hv).2.2.2
  have hi17 : ∀ M, (Try.prog.info? 81).map (·.size) = some (arr (tlyL M)).size := fun M => by rw [arr_size, tlyL_len]; exact T_tal
  have HI := Lib.hid hi17
  have HE := Lib.hid (vsm_each hv)
  have HZ : Hid (arr (List.replicate 17 0) = arr (tlyL [])) := Lib.hid (by congr 1)
  clear hv hi17
  go_enter Try.func93, Try.ntmps93
  go_wp2
  go_loopw [5, 8] (fun _ i wr => ∃ k : Nat, k ≤ L.length ∧ i = .int .i64 k ∧ Below w.heap.size w wr ∧ Blk wr w.heap.size 81 (arr (List.replicate 17 0)) ∧ Blk wr (w.heap.size + 1) 81 (arr (tlyL (L.take k)))) (fun _ i _ => L.length - (intOf i).toNat)
  case atStart =>
    refine ⟨0, Nat.zero_le _, rfl, ((Below.refl _ _).alloc (Nat.le_refl _) _).alloc (by simp) _, (Blk.new w _ _).alloc _, ?_⟩
    have e := Blk.new (w.alloc (.cells (arr (List.replicate 17 0)) 81)) 81 (arr (List.replicate 17 0))
    rw [World.size_alloc] at e
    rw [List.take_zero, ← HZ.out]
    exact e
  case round =>
    obtain ⟨k, hk, rfl, hbel, hb2, hb3⟩ := hrel
    by_cases hlt : k < L.length
    · have hR := (h.more hB).below hbel
      obtain ⟨b, o, rfl, hbB, hc⟩ := hR.at_ hlt
      have hx := HE.out L[k] (List.getElem_mem hlt)
      have hTK := List.take_succ_eq_append_getElem hlt
      obtain ⟨x, hxe⟩ := Int.eq_ofNat_of_zero_le (show 0 ≤ L[k] by omega)
      rw [hxe] at hx hc hTK
      have hx17 : x < 17 := by omega
      have HS := Lib.hid (tlyL_next (L.take k) hx17)
      rw [← hTK] at HS
      have hbd := eqc_bd (x : Int) (L.take k)
      have hlk : (L.take k).length ≤ 16 := by rw [List.length_take]; omega
      have hct : wr.cell? ⟨w.heap.size + 1, x, none⟩ = some (.int .i64 (eqc (x : Int) (L.take k))) := by
        rw [hb3.cell x, arr_get _ x (by rw [tlyL_len]; exact hx17), tlyL_at _ hx17]
      have hft : wr.frozen? ⟨w.heap.size + 1, x, none⟩ = false := hb3.free x
      obtain ⟨q, hq⟩ : ∃ q, q = eqc (x : Int) (L.take k) := ⟨_, rfl⟩
      rw [← hq] at hct hbd HS
      have hq16 : q ≤ 16 := by omega
      have hq0 := hbd.1
      clear hbd hxe hTK hq
      go_wp2_with fail
      go_roundw
      case rel =>
        refine ⟨k + 1, by omega, by go_num, hbel.setCell (by simp) _, hb2.off (by simp) _, ?_⟩
        have e := hb3.set x (.int .i64 (q + 1))
        rw [arr_set, HS.out] at e
        exact e
      case measure => simp [intOf] <;> omega
    · obtain rfl : k = L.length := by omega
      have ht : L.take L.length = L := List.take_of_length_le (Nat.le_refl _)
      rw [ht] at hb3
      have hsz : (arr (tlyL L)).size = (arr (List.replicate 17 0)).size := by rw [arr_size, arr_size, tlyL_len]; rfl
      go_wp2_with (first | (refine wpList_load_row rfl 81 (.tmp 3) rfl (w.heap.size + 1) rfl 81 (arr (tlyL L)) (0, 0) _ hb3 Try.underlying81 rfl (HI.out L) ?_) | (refine wpList_store_row rfl 81 (.tmp 2) (.tmp 18) rfl w.heap.size rfl (arr (tlyL L)) rfl 81 _ hb2 (HI.out L) hsz (arr_one _) ?_))
      refine bodyPost_ret (results_cell_row rfl _ _ w.heap.size 81 (arr (tlyL L)) (0, 0) _ rfl hb2.row Try.underlying81 rfl (HI.out L)) rfl ?_
      exact ⟨rfl, below_setRow' hbel (Nat.le_refl _) _⟩
theorem dtally_any (P : List Int) (hv : valid P = true) (w : World) :
    Calls Try.prog 111 #[.agg (arr (pad P))] w fun e w' => e = .returned (.agg (arr (tlyL P))) ∧ Below w.heap.size w w' := by
  have hlen := (valid_bd hv).2.2.2
  have hi16 : (Try.prog.info? 59).map (·.size) = some (arr (pad P)).size := by rw [arr_size, pad_len hlen]; exact T_info35
  have hi17 : (Try.prog.info? 81).map (·.size) = some (arr (tlyL P)).size := by rw [arr_size, tlyL_len]; exact T_tal
  have hsz : (arr (tlyL P)).size = (arr (List.replicate 17 0)).size := by rw [arr_size, arr_size, tlyL_len]; rfl
  have HV := Lib.hid hv
  have HS := Lib.hid (vsm_of_valid hv)
  clear hv
  have hb := (Blk.new w 59 (arr (pad P))).alloc (.cells (arr (List.replicate 17 0)) 81)
  have ht := Blk.new (w.alloc (.cells (arr (pad P)) 59)) 81 (arr (List.replicate 17 0))
  rw [World.size_alloc] at ht
  have hA := ((Below.refl w.heap.size w).alloc (Nat.le_refl _) (.cells (arr (pad P)) 59)).alloc (by simp) (.cells (arr (List.replicate 17 0)) 81)
  go_enter Try.func111, Try.ntmps111
  go_wp2_with (first
    | (refine wpList_load_row rfl 59 (.tmp 1) rfl w.heap.size rfl 59 (arr (pad P)) (0, 0) _ hb Try.underlying59 rfl hi16 ?_)
    | (go_at_call 76; refine (list_any P HV.out _).mono ?_; rintro e w1 ⟨a', rfl, ho, hb1⟩; rw [World.size_alloc, World.size_alloc] at hb1; have hz1 := hb1.size; rw [World.size_alloc, World.size_alloc] at hz1; have hA1 := hA.trans (hb1.mono (by omega)); have ht1 := ht.below hb1 (by omega))
    | (go_at_call 93; refine (tallyOf_any _ _ _ P _ ho.rd ho.le HS.out).mono ?_; rintro e w2 ⟨rfl, hb2⟩; have ht2 := ht1.below hb2 (by omega); have hA2 := hA1.trans (hb2.mono (by omega)))
    | (refine wpList_store_row rfl 81 (.tmp 2) (.tmp 5) rfl (w.heap.size + 1) rfl (arr (tlyL P)) rfl 81 _ ht2 hi17 hsz (arr_one _) ?_))
  refine bodyPost_ret (results_cell_row rfl _ _ (w.heap.size + 1) 81 (arr (tlyL P)) (0, 0) _ rfl ht2.row Try.underlying81 rfl hi17) rfl ?_
  exact ⟨rfl, below_setRow' hA2 (by omega) _⟩
end Go.Proofs.Ythafbdpeignccaa
namespace Go.Proofs.Ythafbdpeignccaa
open Go.RowKit NP
set_option maxRecDepth 8000
set_option linter.unusedVariables false
theorem pad_snocS {L : List Int} (h : L.length < 16) (x : Int) : (pad L).set L.length x = pad (L ++ [x]) := by
  unfold pad
  rw [show 16 - L.length = (16 - (L.length + 1)) + 1 by omega, List.replicate_succ, List.set_append_right _ _ (Nat.le_refl _), Nat.sub_self, List.set_cons_zero, List.append_assoc]
  simp
set_option maxHeartbeats 1000000 in
theorem tdiag_any (L : List Int) (hv : vsm L = true) (w : World) :
    Calls Try.prog 94 #[.agg (arr (tlyL L))] w fun e w' => e = .returned (.agg (arr (pad (mrg L)))) ∧ Below w.heap.size w w' := by
  have HV := Lib.hid hv
  have HD := Lib.hid (dscA_all (vsm_each hv))
  have hml : (mrg L).length ≤ 16 := by rw [mrg_len]; exact (vsm_bd hv).2.2.2
  have hi16 : (Try.prog.info? 59).map (·.size) = some (arr (pad (mrg L))).size := by rw [arr_size, pad_len hml]; exact T_info35
  have hsz : (arr (pad (mrg L))).size = (arr (List.replicate 16 0)).size := by rw [arr_size, arr_size, pad_len hml]; rfl
  have hbt := Blk.new w 81 (arr (tlyL L))
  clear hv
  go_enter Try.func94, Try.ntmps94
  go_wp2
  go_loopw [4, 5, 13] (fun i p _ wr => ∃ m : Nat, m ≤ 16 ∧ p = .int .i64 ((16 : Int) - m) ∧ i = .int .i64 ((dscA L m).length : Int) ∧ Below (w.heap.size + 1) (w.alloc (.cells (arr (tlyL L)) 81)) wr ∧ Blk wr (w.heap.size + 1) 59 (arr (List.replicate 16 0)) ∧ Blk wr (w.heap.size + 1 + 1) 59 (arr (pad (dscA L m)))) (fun _ p _ _ => (intOf p).toNat)
  case atStart =>
    refine ⟨0, by omega, rfl, rfl, ((Below.refl _ _).alloc (by simp) _).alloc (by simp) _, ?_, ?_⟩
    · have e := (Blk.new (w.alloc (.cells (arr (tlyL L)) 81)) 59 (arr (List.replicate 16 0))).alloc (.cells (arr (List.replicate 16 0)) 59)
      rw [World.size_alloc] at e
      exact e
    · have e := Blk.new ((w.alloc (.cells (arr (tlyL L)) 81)).alloc (.cells (arr (List.replicate 16 0)) 59)) 59 (arr (List.replicate 16 0))
      rw [World.size_alloc, World.size_alloc] at e
      exact e
  case round =>
    obtain ⟨m, hm, rfl, rfl, hbel, hb2, hb3⟩ := hrel
    by_cases hlt : m < 16
    · obtain ⟨p, hp⟩ : ∃ p : Nat, p = 16 - m := ⟨_, rfl⟩
      have hpe : ((16 : Int) - (m : Int)) = (p : Int) := by omega
      have hp17 : p < 17 := by omega
      have hp1 : (1 : Int) ≤ (p : Int) := by omega
      have hp1' : 1 ≤ p := by omega
      have hbd := eqc_bd (p : Int) L
      obtain ⟨q, hq⟩ := Int.eq_ofNat_of_zero_le hbd.1
      have HDS : Hid (dscA L (m + 1) = dscA L m ++ List.replicate q (p : Int)) := Lib.hid (by rw [dscA, hpe, hq, Int.toNat_natCast])
      have hdl := dscA_len HV.out (show m + 1 ≤ 16 by omega)
      rw [HDS.out, List.length_append, List.length_replicate] at hdl
      have hct : wr.cell? ⟨w.heap.size, p, none⟩ = some (.int .i64 (q : Int)) := by
        rw [(hbt.below hbel (by omega)).cell p, arr_get _ p (by rw [tlyL_len]; exact hp17), tlyL_at _ hp17, hq]
      obtain ⟨P, hP⟩ : ∃ P, P = dscA L m := ⟨_, rfl⟩
      rw [← hP] at hb3 HDS hdl ⊢
      rw [hpe]
      have HPm : Hid ((p : Int) - 1 = (16 : Int) - ((m + 1 : Nat) : Int)) := Lib.hid (by omega)
      clear hP hbd hq hpe hp
      have hwo : ∃ wo : World, wo = wr := ⟨_, rfl⟩
      obtain ⟨wo, hwo⟩ := hwo
      go_wp2
      go_loopw [4, 13] (fun i j wr => ∃ y : Nat, y ≤ q ∧ j = .int .i64 y ∧ i = .int .i64 ((P.length + y : Nat) : Int) ∧ Below (w.heap.size + 1) (w.alloc (.cells (arr (tlyL L)) 81)) wr ∧ Blk wr (w.heap.size + 1) 59 (arr (List.replicate 16 0)) ∧ Blk wr (w.heap.size + 1 + 1) 59 (arr (pad (P ++ List.replicate y (p : Int))))) (fun _ j _ => q - (intOf j).toNat)
      case atStart => exact ⟨0, Nat.zero_le _, rfl, rfl, hbel, hb2, by simpa using hb3⟩
      case round =>
        obtain ⟨y, hy, rfl, rfl, hbel', hb2', hb3'⟩ := hrel
        clear hbel hb2 hb3 hct
        by_cases hyl : y < q
        · have hPy : (P ++ List.replicate y (p : Int)).length = P.length + y := by simp
          have hPS : (pad (P ++ List.replicate y (p : Int))).set (P.length + y) (p : Int) = pad (P ++ List.replicate (y + 1) (p : Int)) := by
            have := pad_snocS (L := P ++ List.replicate y (p : Int)) (by rw [hPy]; omega) (p : Int)
            rw [hPy] at this
            rw [this, List.replicate_succ', List.append_assoc]
          have hpl : (pad (P ++ List.replicate y (p : Int))).length = 16 := pad_len (by rw [hPy]; omega)
          have hci : ∃ u, wr.cell? ⟨w.heap.size + 1 + 1, P.length + y, none⟩ = some u := by
            rw [hb3'.cell]
            exact ⟨_, arr_get _ _ (by rw [hpl]; omega)⟩
          obtain ⟨u, hci⟩ := hci
          have hfi : wr.frozen? ⟨w.heap.size + 1 + 1, P.length + y, none⟩ = false := hb3'.free _
          obtain ⟨z, hz⟩ : ∃ z, z = P.length + y := ⟨_, rfl⟩
          rw [← hz] at hci hfi hPS ⊢
          have hz16 : z < 16 := by omega
          have HPS := Lib.hid hPS
          have HZ := Lib.hid hz
          clear hPy hpl hPS hz
          go_wp2_with fail
          go_roundw
          case rel =>
            refine ⟨y + 1, by omega, by go_num, by rw [← Nat.add_assoc, ← HZ.out]; go_num, hbel'.setCell (by simp <;> omega) _, hb2'.off (by simp) _, ?_⟩
            have e := hb3'.set z (.int .i64 (p : Int))
            rw [arr_set, HPS.out] at e
            exact e
          case measure => simp [intOf] <;> omega
        · obtain rfl : y = q := by omega
          rw [← HDS.out] at hb3'
          have HLL : Hid (((P.length + y : Nat) : Int) = ((dscA L (m + 1)).length : Int)) := Lib.hid (by rw [HDS.out]; simp)
          go_wp2
          go_roundw
          case rel => exact ⟨m + 1, by omega, by rw [HPm.out], by rw [HLL.out], hbel', hb2', hb3'⟩
          case measure => simp [intOf] <;> omega
    · obtain rfl : m = 16 := by omega
      rw [HD.out] at hb3
      go_wp2_with (first | (refine wpList_load_row rfl 59 (.tmp 3) rfl (w.heap.size + 1 + 1) rfl 59 (arr (pad (mrg L))) (0, 0) _ hb3 Try.underlying59 rfl hi16 ?_) | (refine wpList_store_row rfl 59 (.tmp 2) (.tmp 21) rfl (w.heap.size + 1) rfl (arr (pad (mrg L))) rfl 59 _ hb2 hi16 hsz (arr_one _) ?_))
      refine bodyPost_ret (results_cell_row rfl _ _ (w.heap.size + 1) 59 (arr (pad (mrg L))) (0, 0) _ rfl hb2.row Try.underlying59 rfl hi16) rfl ?_
      exact ⟨rfl, below_setRow' (((Below.refl w.heap.size w).alloc (Nat.le_refl _) _).trans (hbel.mono (by omega))) (by omega) _⟩
end Go.Proofs.Ythafbdpeignccaa
namespace Go.Proofs.Ythafbdpeignccaa
namespace NP
def sqRT (L : List Int) (d : Int) (k : Nat) : List Int := ((List.range k).filter fun i => decide (d < L.getD i 0)).map fun i => L.getD i 0 - d
theorem sqRT_succ (L : List Int) (d : Int) (k : Nat) : sqRT L d (k + 1) = sqRT L d k ++ if d < L.getD k 0 then [L.getD k 0 - d] else [] := by
  unfold sqRT
  rw [List.range_succ, List.filter_append, List.map_append]
  obtain ⟨f, hf⟩ : ∃ f : Nat → Int, ∀ i, L.getD i 0 = f i := ⟨_, fun _ => rfl⟩
  simp only [hf]
  congr 1
  by_cases h : d < f k <;> simp [h]
theorem sqRT_len (L : List Int) (d : Int) (k : Nat) : (sqRT L d k).length ≤ k := by
  unfold sqRT
  rw [List.length_map]
  exact Nat.le_trans (List.length_filter_le _ _) (by simp)
def sqR (L : List Int) : List Int := sqRT L (durS L) (durS L)
def sqB (L : List Int) : List Int := L.drop (durS L)
def sqRF (L : List Int) : List Int := if valid L then sqR L else []
def sqBF (L : List Int) : List Int := if valid L then sqB L else []
def sqD (L : List Int) : Int := if valid L then (durS L : Int) else 0
theorem sqRF_yes {L : List Int} (h : valid L = true) : sqRF L = sqR L := by simp [sqRF, h]
theorem sqRF_no {L : List Int} (h : valid L = false) : sqRF L = [] := by simp [sqRF, h]
theorem sqBF_yes {L : List Int} (h : valid L = true) : sqBF L = sqB L := by simp [sqBF, h]
theorem sqBF_no {L : List Int} (h : valid L = false) : sqBF L = [] := by simp [sqBF, h]
theorem sqD_yes {L : List Int} (h : valid L = true) : sqD L = (durS L : Int) := by simp [sqD, h]
theorem sqD_no {L : List Int} (h : valid L = false) : sqD L = 0 := by simp [sqD, h]
/-- what stands in the rows of the square, less the square -/
def sqArr (L : List Int) : List Int := (List.range 16).map fun j => if j < durS L then L.getD j 0 - (durS L : Int) else 0
def sqOk (d : Int) (R B : List Int) : Bool := decide (0 ≤ d) && decide (d ≤ 16) && valid R && valid B && decide ((R.length : Int) ≤ d) && decide (B.getD 0 0 ≤ d) && decide (d * d + sumL R + sumL B ≤ 16)
def sqPut (d : Int) (R B : List Int) : List Int := adp (List.replicate d.toNat d) R ++ B
def sqPutF (d : Int) (R B : List Int) : List Int := if sqOk d R B then sqPut d R B else []
theorem sqPutF_yes {d : Int} {R B : List Int} (h : sqOk d R B = true) : sqPutF d R B = sqPut d R B := by simp [sqPutF, h]
theorem sqPutF_no {d : Int} {R B : List Int} (h : sqOk d R B = false) : sqPutF d R B = [] := by simp [sqPutF, h]
theorem sqOk_iff (d : Int) (R B : List Int) : sqOk d R B = true ↔ 0 ≤ d ∧ d ≤ 16 ∧ valid R = true ∧ valid B = true ∧ (R.length : Int) ≤ d ∧ B.getD 0 0 ≤ d ∧ d * d + sumL R + sumL B ≤ 16 := by
  simp [sqOk, and_assoc]

def sqTab (N : List Nat) : Bool :=
  let L := N.map Int.ofNat
  valid (sqR L) && valid (sqB L) && decide (pad (sqR L) = sqArr L) && decide (sqR (conj L) = conj (sqB L)) && decide (sqB (conj L) = conj (sqR L)) && sqOk (durS L) (sqR L) (sqB L) && decide (sqPut (durS L) (sqR L) (sqB L) = L)
set_option maxRecDepth 100000 in
theorem sqTab_all : all16.all sqTab = true := by decide +kernel
theorem sq_facts {L : List Int} (h : valid L = true) : valid (sqR L) = true ∧ valid (sqB L) = true ∧ pad (sqR L) = sqArr L ∧ sqR (conj L) = conj (sqB L) ∧ sqB (conj L) = conj (sqR L) ∧ sqOk (durS L) (sqR L) (sqB L) = true ∧ sqPut (durS L) (sqR L) (sqB L) = L := by
  obtain ⟨N, hN, rfl⟩ := of_all sqTab_all h
  simp only [sqTab, Bool.and_eq_true, decide_eq_true_eq] at hN
  obtain ⟨⟨⟨⟨⟨⟨h1, h2⟩, h3⟩, h4⟩, h5⟩, h6⟩, h7⟩ := hN
  exact ⟨h1, h2, h3, h4, h5, h6, h7⟩
theorem sqRF_len (L : List Int) : (sqRF L).length ≤ 16 := by
  unfold sqRF
  split
  · rename_i h; exact (valid_bd (sq_facts h).1).2.2.2
  · simp
theorem sqBF_len (L : List Int) : (sqBF L).length ≤ 16 := by
  unfold sqBF
  split
  · rename_i h; exact (valid_bd (sq_facts h).2.1).2.2.2
  · simp

/-- the square itself -/
def sqs (n : Nat) : List Int := List.replicate n (n : Int)
theorem sqs_valid {n : Nat} (h : n ≤ 4) : valid (sqs n) = true := by
  match n, h with
  | 0, _ => rfl
  | 1, _ => rfl
  | 2, _ => rfl
  | 3, _ => rfl
  | 4, _ => rfl
theorem sumL_rep (n : Nat) (x : Int) : sumL (List.replicate n x) = (n : Int) * x := by
  induction n with
  | zero => simp [sumL]
  | succ n ih =>
    rw [List.replicate_succ]
    show x + sumL _ = _
    rw [ih, Int.natCast_add, Int.add_mul]
    simp
    omega
theorem sqs_sum (n : Nat) : sumL (sqs n) = (n : Int) * (n : Int) := sumL_rep n n
theorem sqs_getD (n i : Nat) : (sqs n).getD i 0 = if i < n then (n : Int) else 0 := by
  unfold sqs
  rw [List.getD_eq_getElem?_getD, List.getElem?_replicate]
  split <;> rfl
theorem sq4 {n : Nat} {x : Int} (hx : 0 ≤ x) (h : (n : Int) * (n : Int) + x ≤ 16) : n ≤ 4 := by
  rcases Nat.lt_or_ge 4 n with h1 | h1
  · have h2 : (5 : Int) * 5 ≤ (n : Int) * (n : Int) := Int.mul_le_mul (by omega) (by omega) (by omega) (by omega)
    omega
  · exact h1
theorem sq_put {n : Nat} {R B : List Int} (h : sqOk n R B = true) :
    two (sqs n) R = true ∧ two (adp (sqs n) R) B = true ∧ sqPut n R B = adp (sqs n) R ++ B ∧ mono (adp (sqs n) R ++ B) ∧ (adp (sqs n) R).length = n ∧ (∀ x ∈ adp (sqs n) R ++ B, 1 ≤ x) ∧ valid (sqPut n R B) = true := by
  obtain ⟨h0, h16, hvR, hvB, hRl, hB0, hs⟩ := (sqOk_iff _ _ _).1 h
  have bR := valid_bd hvR
  have bB := valid_bd hvB
  have h4 : n ≤ 4 := sq4 (x := sumL R + sumL B) (by omega) (by omega)
  have hv := sqs_valid h4
  have hss := sqs_sum n
  have t1 : two (sqs n) R = true := by simp [two, hv, hvR, hss]; omega
  have hvP := valid_adp t1
  have hsP := adp_sum (sqs n) R
  have t2 : two (adp (sqs n) R) B = true := by simp [two, hvP, hvB, hsP, hss]; omega
  have hlP : (adp (sqs n) R).length = n := by rw [adp_len]; simp [sqs]; omega
  have hge : ∀ x ∈ adp (sqs n) R, (n : Int) ≤ x := fun x hx => by
    obtain ⟨i, hi, rfl⟩ := List.getElem_of_mem hx
    have e := adp_getD (sqs n) R i
    rw [getD_lt hi, sqs_getD, if_pos (by omega)] at e
    have := (getD_nn hvR i).1
    omega
  have hle : ∀ y ∈ B, y ≤ (n : Int) := fun y hy => by
    have := head_ge hvB y hy
    have e : B.headD 0 = B.getD 0 0 := by cases B <;> rfl
    omega
  have hm : mono (adp (sqs n) R ++ B) := mono_append (mono_valid hvP) (mono_valid hvB) fun x hx y hy => by
    have := hge x hx
    have := hle y hy
    omega
  have h1 : ∀ x ∈ adp (sqs n) R ++ B, 1 ≤ x := fun x hx => by
    rcases List.mem_append.1 hx with hx | hx
    · exact valid_ge1 hvP x hx
    · exact valid_ge1 hvB x hx
  have hput : sqPut n R B = adp (sqs n) R ++ B := by unfold sqPut sqs; simp
  refine ⟨t1, t2, hput, hm, hlP, h1, ?_⟩
  rw [hput]
  exact valid_mono hm h1 (by rw [sumL_append, hsP, hss]; omega)
theorem sq_um {n : Nat} {R B : List Int} (h : sqOk n R B = true) : (um (fun i => (adp (sqs n) R).getD i 0) (fun i => B.getD i 0) 16).1 = pad (sqPut n R B) := by
  obtain ⟨_, t2, hp, hm, _, h1, _⟩ := sq_put h
  rw [hp]
  exact um_end t2 hm (fun k => eqc_append k _ _) (List.length_append) h1
theorem getD_app (A B : List Int) (j : Nat) : (A ++ B).getD j 0 = if j < A.length then A.getD j 0 else B.getD (j - A.length) 0 := by
  rw [List.getD_eq_getElem?_getD, List.getElem?_append]
  split <;> rw [List.getD_eq_getElem?_getD]
theorem sq_back {n : Nat} {R B : List Int} (h : sqOk n R B = true) : durS (sqPut n R B) = n ∧ sqR (sqPut n R B) = R ∧ sqB (sqPut n R B) = B := by
  obtain ⟨t1, t2, hp, hm, hl, h1, hv⟩ := sq_put h
  obtain ⟨h0, h16, hvR, hvB, hRl, hB0, hs⟩ := (sqOk_iff _ _ _).1 h
  have hg : ∀ j, j < n → (sqPut n R B).getD j 0 = (n : Int) + R.getD j 0 := fun j hj => by
    rw [hp, getD_app, if_pos (by omega), adp_getD, sqs_getD, if_pos hj]
  have hd : durS (sqPut n R B) = n := durS_unique (fun j hj => by rw [hg j hj]; have := (getD_nn hvR j).1; omega) (by
    rw [hp, getD_app, if_neg (by omega), hl, Nat.sub_self]
    omega)
  have hRt : ∀ k, k ≤ n → sqRT (sqPut n R B) (n : Int) k = R.take k := by
    intro k
    induction k with
    | zero => intro _; simp [sqRT]
    | succ k ih =>
      intro hk
      rw [sqRT_succ, ih (by omega), hg k (by omega)]
      by_cases hkR : k < R.length
      · have := getD_pos hvR hkR
        rw [if_pos (by omega), List.take_succ_eq_append_getElem hkR, getD_lt hkR]
        congr 2
        omega
      · rw [getD_ge (L := R) (by omega), if_neg (by omega), List.append_nil, List.take_of_length_le (by omega), List.take_of_length_le (by omega)]
  refine ⟨hd, ?_, ?_⟩
  · unfold sqR
    rw [hd, hRt n (Nat.le_refl _), List.take_of_length_le (by omega)]
  · unfold sqB
    rw [hd, hp, List.drop_append, List.drop_eq_nil_of_le (by omega), hl, Nat.sub_self]
    rfl
theorem sqPutF_len (d : Int) (R B : List Int) : (sqPutF d R B).length ≤ 16 := by
  unfold sqPutF
  split
  · rename_i h
    obtain ⟨n, rfl⟩ := Int.eq_ofNat_of_zero_le ((sqOk_iff _ _ _).1 h).1
    exact (valid_bd (sq_put h).2.2.2.2.2.2).2.2.2
  · simp

/-- doubled parts -/
def dbl (P : List Int) : List Int := P.map fun x => 2 * x
theorem adp_self (P : List Int) : adp P P = dbl P := by
  apply List.ext_getElem
  · simp [adp, dbl]
  · intro i h1 h2
    have hi : i < P.length := by simpa [dbl] using h2
    simp [adp, dbl, List.getElem?_eq_getElem hi]
    omega
theorem two_self (P : List Int) : two P P = (valid P && decide (2 * sumL P ≤ 16)) := by
  unfold two
  cases valid P <;> simp
  constructor <;> intro h <;> omega
theorem dbl_take (P : List Int) (k : Nat) (h : k < P.length) : dbl (P.take (k + 1)) = dbl (P.take k) ++ [2 * P[k]] := by
  unfold dbl
  rw [List.take_succ_eq_append_getElem h, List.map_append]
  rfl
end NP
end Go.Proofs.Ythafbdpeignccaa
namespace Go.Proofs.Ythafbdpeignccaa
namespace NP
set_option linter.unusedVariables false
/-- arms of the first d places -/
def armsTo (L : List Int) (d : Nat) : List Int := (List.range d).map fun (i : Nat) => L.getD i 0 - ((i : Int) + 1)
theorem armsTo_len (L : List Int) (d : Nat) : (armsTo L d).length = d := by simp [armsTo]
theorem armsTo_succ (L : List Int) (d : Nat) : armsTo L (d + 1) = armsTo L d ++ [L.getD d 0 - ((d : Int) + 1)] := by
  unfold armsTo; rw [List.range_succ, List.map_append]; rfl
theorem armsTo_getD (L : List Int) (d i : Nat) (h : i < d) : (armsTo L d).getD i 0 = L.getD i 0 - ((i : Int) + 1) := by
  rw [getD_lt (by rw [armsTo_len]; exact h)]; simp [armsTo]
theorem armsTo_congr {L M : List Int} (h : ∀ i, L.getD i 0 = M.getD i 0) (d : Nat) : armsTo L d = armsTo M d := by
  unfold armsTo; exact List.map_congr_left fun i _ => by rw [h]
def froA (L : List Int) : List Int := armsTo L (durS L)
def froB (L : List Int) : List Int := armsTo (conj L) (durS L)
def froAF (L : List Int) : List Int := if valid L then froA L else []
def froBF (L : List Int) : List Int := if valid L then froB L else []
theorem froAF_yes {L : List Int} (h : valid L = true) : froAF L = froA L := by simp [froAF, h]
theorem froAF_no {L : List Int} (h : valid L = false) : froAF L = [] := by simp [froAF, h]
theorem froBF_yes {L : List Int} (h : valid L = true) : froBF L = froB L := by simp [froBF, h]
theorem froBF_no {L : List Int} (h : valid L = false) : froBF L = [] := by simp [froBF, h]
theorem durS_le {L : List Int} (h : valid L = true) : durS L ≤ 16 := Nat.le_trans (durS_spec L).1 (valid_bd h).2.2.2
theorem froAF_len (L : List Int) : (froAF L).length ≤ 16 := by
  unfold froAF
  split
  · rename_i h; unfold froA; rw [armsTo_len]; exact durS_le h
  · simp
theorem froBF_len (L : List Int) : (froBF L).length ≤ 16 := by
  unfold froBF
  split
  · rename_i h; unfold froB; rw [armsTo_len]; exact durS_le h
  · simp
/-- how many of the first n places q holds at -/
def nb (q : Nat → Bool) : Nat → Nat
  | 0 => 0
  | n + 1 => nb q n + if q n then 1 else 0
theorem nb_le (q : Nat → Bool) (n : Nat) : nb q n ≤ n := by
  induction n with
  | zero => exact Nat.le_refl _
  | succ n ih => simp only [nb]; split <;> omega
theorem nb_to {q : Nat → Bool} {m : Nat} (n : Nat) (h : ∀ i, i < n → (q i = true ↔ i < m)) : nb q n = min n m := by
  induction n with
  | zero => simp [nb]
  | succ n ih =>
    rw [nb, ih fun i hi => h i (by omega)]
    have := h n (by omega)
    split
    · rename_i hq; have := this.1 hq; omega
    · rename_i hq
      have : ¬ n < m := fun hc => hq (this.2 hc)
      omega
theorem nb_mono {q r : Nat → Bool} (n : Nat) (h : ∀ i, i < n → q i = true → r i = true) : nb q n ≤ nb r n := by
  induction n with
  | zero => exact Nat.le_refl _
  | succ n ih =>
    have h1 := ih fun i hi => h i (by omega)
    have h2 := h n (by omega)
    simp only [nb]
    split
    · rename_i hq; rw [if_pos (h2 hq)]; omega
    · split <;> omega
theorem nb_all {q : Nat → Bool} (n : Nat) (h : ∀ i, i < n → q i = true) : nb q n = n := by
  rw [nb_to (m := n) n fun i hi => ⟨fun _ => hi, fun _ => h i hi⟩]; omega
/-- strictly falling numbers of at least 0, all less than m -/
def dnB (m : Int) (A : List Int) : Bool := decide (∀ i, i < A.length → (0 ≤ A.getD i 0 ∧ A.getD i 0 < m ∧ (0 < i → A.getD i 0 < A.getD (i - 1) 0)))
theorem dnB_iff (m : Int) (A : List Int) : dnB m A = true ↔ ∀ i, i < A.length → (0 ≤ A.getD i 0 ∧ A.getD i 0 < m ∧ (0 < i → A.getD i 0 < A.getD (i - 1) 0)) := by simp [dnB]
theorem dnB_at {m : Int} {A : List Int} {i : Nat} (hi : i < A.length) (h : ¬ (0 ≤ A.getD i 0 ∧ A.getD i 0 < m ∧ (0 < i → A.getD i 0 < A.getD (i - 1) 0))) : dnB m A = false := by
  cases hd : dnB m A with
  | false => rfl
  | true => exact absurd ((dnB_iff m A).1 hd i hi) h
/-- those of the arms ahead are greater by their distance -/
theorem dn_gap {m : Int} {A : List Int} (h : dnB m A = true) : ∀ i j, j ≤ i → i < A.length → A.getD i 0 + ((i : Int) - j) ≤ A.getD j 0 := by
  intro i
  induction i with
  | zero => intro j hj hi; obtain rfl : j = 0 := (by omega); omega
  | succ i ih =>
    intro j hj hi
    rcases Nat.lt_or_ge j (i + 1) with h1 | h1
    · have h2 := ((dnB_iff m A).1 h (i + 1) hi).2.2 (by omega)
      simp only [Nat.add_sub_cancel] at h2
      have := ih j (by omega) (by omega)
      omega
    · obtain rfl : j = i + 1 := by omega
      omega
theorem dn_low {m : Int} {A : List Int} (h : dnB m A = true) (i : Nat) (hi : i < A.length) : (A.length : Int) - 1 - i ≤ A.getD i 0 := by
  have h1 := dn_gap h (A.length - 1) i (by omega) (by omega)
  have h2 := ((dnB_iff m A).1 h (A.length - 1) (by omega)).1
  omega
def pofOk (A B : List Int) : Bool := dnB 16 A && dnB 16 B && decide (A.length = B.length) && decide (sumL A + sumL B + (A.length : Int) ≤ 16)
/-- how many of the legs come down to row j -/
def leg (B : List Int) (j : Nat) : Nat := nb (fun i => decide ((j : Int) ≤ B.getD i 0 + i)) B.length
def pofG (A B : List Int) (j : Nat) : Int := if j < A.length then A.getD j 0 + j + 1 else leg B j
def pofN (A B : List Int) : Nat := if A.length = 0 then 0 else (B.getD 0 0 + 1).toNat
/-- the parts of arms and legs -/
def pof (A B : List Int) : List Int := (List.range (pofN A B)).map fun (j : Nat) => pofG A B j
theorem pof_len (A B : List Int) : (pof A B).length = pofN A B := by simp [pof]
theorem pof_getD (A B : List Int) (j : Nat) : (pof A B).getD j 0 = if j < pofN A B then pofG A B j else 0 := by
  by_cases h : j < pofN A B
  · rw [getD_lt (by rw [pof_len]; exact h), if_pos h]; simp [pof]
  · rw [getD_ge (by rw [pof_len]; omega), if_neg h]
theorem pofOk_out {A B : List Int} (h : pofOk A B = true) : dnB 16 A = true ∧ dnB 16 B = true ∧ A.length = B.length ∧ sumL A + sumL B + (A.length : Int) ≤ 16 := by
  unfold pofOk at h
  simp only [Bool.and_eq_true, decide_eq_true_eq] at h
  exact ⟨h.1.1.1, h.1.1.2, h.1.2, h.2⟩
def pre2 (A B : List Int) : Prop := dnB 16 A = true ∧ dnB 16 B = true ∧ A.length = B.length
theorem pofOk_pre {A B : List Int} (h : pofOk A B = true) : pre2 A B := ⟨(pofOk_out h).1, (pofOk_out h).2.1, (pofOk_out h).2.2.1⟩
theorem leg_anti (B : List Int) {j k : Nat} (h : j ≤ k) : leg B k ≤ leg B j := nb_mono _ fun i _ hi => by
  have := of_decide_eq_true hi
  exact decide_eq_true (by omega)
theorem leg_zero {B : List Int} (hB : dnB 16 B = true) {j : Nat} (h : B.getD 0 0 < j) : leg B j = 0 := by
  have : leg B j = min B.length 0 := nb_to _ fun i hi => ⟨fun hq => by
    have h1 := of_decide_eq_true hq
    have h2 := dn_gap hB i 0 (by omega) hi
    omega, fun hq => by omega⟩
  omega
theorem leg_le (B : List Int) (j : Nat) : leg B j ≤ B.length := nb_le _ _
theorem leg_pos {B : List Int} (h0 : 0 < B.length) {j : Nat} (h : (j : Int) ≤ B.getD 0 0) : 1 ≤ leg B j := by
  have e : nb (fun i => decide ((j : Int) ≤ B.getD i 0 + i)) 1 = 1 := by
    have e0 : (fun (i : Nat) => decide ((j : Int) ≤ B.getD i 0 + i)) 0 = true := decide_eq_true (by show (j : Int) ≤ B.getD 0 0 + ((0 : Nat) : Int); omega)
    show 0 + (if (fun (i : Nat) => decide ((j : Int) ≤ B.getD i 0 + i)) 0 = true then 1 else 0) = 1
    rw [if_pos e0]
  have : ∀ n, 1 ≤ n → 1 ≤ nb (fun i => decide ((j : Int) ≤ B.getD i 0 + i)) n := by
    intro n hn
    induction n with
    | zero => omega
    | succ n ih =>
      rcases Nat.eq_zero_or_pos n with h1 | h1
      · subst h1; exact Nat.le_of_eq e.symm
      · have := ih h1; simp only [nb]; split <;> omega
  exact this _ h0
theorem pofN_ge {A B : List Int} (h : pre2 A B) : A.length ≤ pofN A B ∧ pofN A B ≤ 16 := by
  obtain ⟨hA, hB, hl⟩ := id h
  unfold pofN
  split
  · omega
  · have h1 := dn_low hB 0 (by omega)
    have h2 := (dnB_iff 16 B).1 hB 0 (by omega)
    omega
theorem pof_pos {A B : List Int} (h : pre2 A B) {j : Nat} (hj : j < pofN A B) : 1 ≤ pofG A B j ∧ pofG A B j ≤ 32 := by
  obtain ⟨hA, hB, hl⟩ := id h
  have hN := pofN_ge h
  unfold pofG
  split
  · rename_i hj2
    have := (dnB_iff 16 A).1 hA j hj2
    omega
  · rename_i hj2
    unfold pofN at hj
    split at hj
    · omega
    · have h1 := leg_pos (B := B) (by omega) (j := j) (by omega)
      have h2 := leg_le B j
      omega
theorem pof_fall {A B : List Int} (h : pre2 A B) {j : Nat} (hj : j + 1 < pofN A B) : pofG A B (j + 1) ≤ pofG A B j := by
  obtain ⟨hA, hB, hl⟩ := id h
  unfold pofG
  by_cases h1 : j + 1 < A.length
  · rw [if_pos h1, if_pos (by omega)]
    have := dn_gap hA (j + 1) j (by omega) h1
    omega
  · rw [if_neg h1]
    by_cases h2 : j < A.length
    · rw [if_pos h2]
      have := (dnB_iff 16 A).1 hA j h2
      have h3 := leg_le B (j + 1)
      omega
    · rw [if_neg h2]
      have := leg_anti B (show j ≤ j + 1 by omega)
      omega
/-- what row i of the diagonal gives to row j -/
def ctr (A B : List Int) (i j : Nat) : Int := (if j = i then 1 + A.getD i 0 else 0) + (if i + 1 ≤ j ∧ (j : Int) ≤ i + B.getD i 0 then 1 else 0)
def fro (A B : List Int) : Nat → Nat → Int
  | 0, _ => 0
  | n + 1, j => fro A B n j + ctr A B n j
/-- the program's diagram, when n rows of the diagonal are done, the arm of the next (t) and k cells of its leg -/
def fmid (A B : List Int) (n : Nat) (t : Bool) (k : Nat) : List Int := (List.range 16).map fun j => fro A B n j + (if t = true ∧ j = n then 1 + A.getD n 0 else 0) + (if n + 1 ≤ j ∧ j < n + 1 + k then 1 else 0)
theorem fmid_len (A B : List Int) (n : Nat) (t : Bool) (k : Nat) : (fmid A B n t k).length = 16 := by simp [fmid]
theorem fmid_get (A B : List Int) (n : Nat) (t : Bool) (k j : Nat) (h : j < (fmid A B n t k).length) : (fmid A B n t k)[j] = fro A B n j + (if t = true ∧ j = n then 1 + A.getD n 0 else 0) + (if n + 1 ≤ j ∧ j < n + 1 + k then 1 else 0) := by simp [fmid]
theorem fmid_zero (A B : List Int) : fmid A B 0 false 0 = List.replicate 16 0 := by
  apply List.ext_getElem
  · rw [fmid_len]; rfl
  · intro j h1 h2
    rw [fmid_get, List.getElem_replicate]
    simp [fro]
    omega
theorem fmid_arm (A B : List Int) (n : Nat) : (fmid A B n false 0).set n (fro A B n n + (1 + A.getD n 0)) = fmid A B n true 0 := by
  apply List.ext_getElem
  · rw [List.length_set, fmid_len, fmid_len]
  · intro j h1 h2
    by_cases hj : n = j
    · subst hj
      rw [List.getElem_set_self, fmid_get, if_pos ⟨rfl, rfl⟩, if_neg (show ¬ (n + 1 ≤ n ∧ n < n + 1 + 0) by omega)]
      omega
    · rw [List.getElem_set_ne hj, fmid_get, fmid_get]
      have : ¬ j = n := fun e => hj e.symm
      simp [this]
theorem fmid_leg (A B : List Int) (n k : Nat) : (fmid A B n true k).set (n + 1 + k) (fro A B n (n + 1 + k) + 1) = fmid A B n true (k + 1) := by
  apply List.ext_getElem
  · rw [List.length_set, fmid_len, fmid_len]
  · intro j h1 h2
    by_cases hj : n + 1 + k = j
    · subst hj
      rw [List.getElem_set_self, fmid_get, if_neg (by omega), if_pos (by omega)]
      omega
    · rw [List.getElem_set_ne hj, fmid_get, fmid_get]
      congr 1
      by_cases h3 : n + 1 ≤ j ∧ j < n + 1 + k
      · rw [if_pos h3, if_pos (by omega)]
      · rw [if_neg h3, if_neg (by omega)]
theorem fmid_next (A B : List Int) (n k : Nat) (hk : (k : Int) = B.getD n 0) : fmid A B n true k = fmid A B (n + 1) false 0 := by
  apply List.ext_getElem
  · rw [fmid_len, fmid_len]
  · intro j h1 h2
    rw [fmid_get, fmid_get]
    simp only [fro, ctr, true_and, Bool.false_eq_true, false_and, if_false]
    rw [if_neg (by omega : ¬ (n + 1 + 1 ≤ j ∧ j < n + 1 + 1 + 0))]
    (repeat' split) <;> omega
theorem fro_eq (A B : List Int) (j : Nat) : ∀ n, fro A B n j = (if j < n then 1 + A.getD j 0 else 0) + (nb (fun i => decide (i + 1 ≤ j) && decide ((j : Int) ≤ i + B.getD i 0)) n : Nat) := by
  intro n
  induction n with
  | zero => rfl
  | succ n ih =>
    rw [fro, ih, ctr, nb]
    have e : (if n + 1 ≤ j ∧ (j : Int) ≤ n + B.getD n 0 then (1 : Int) else 0) = (((if (decide (n + 1 ≤ j) && decide ((j : Int) ≤ n + B.getD n 0)) = true then 1 else 0 : Nat)) : Int) := by
      by_cases hc : n + 1 ≤ j ∧ (j : Int) ≤ n + B.getD n 0
      · rw [if_pos hc, if_pos (by rw [decide_eq_true hc.1, decide_eq_true hc.2]; rfl)]; rfl
      · rw [if_neg hc, if_neg (by intro hq; rw [Bool.and_eq_true, decide_eq_true_eq, decide_eq_true_eq] at hq; exact hc hq)]; rfl
    rw [e]
    by_cases h1 : j = n
    · subst h1
      rw [if_pos rfl, if_neg (show ¬ j < j by omega), if_pos (show j < j + 1 by omega)]
      omega
    · rw [if_neg h1]
      by_cases h2 : j < n
      · rw [if_pos h2, if_pos (show j < n + 1 by omega)]; omega
      · rw [if_neg h2, if_neg (show ¬ j < n + 1 by omega)]; omega
theorem fro_bd {A B : List Int} (hA : dnB 16 A = true) {n j : Nat} (hn : n ≤ A.length) (hn16 : n ≤ 16) : 0 ≤ fro A B n j ∧ fro A B n j ≤ 40 := by
  rw [fro_eq]
  have := nb_le (fun i => decide (i + 1 ≤ j) && decide ((j : Int) ≤ i + B.getD i 0)) n
  split
  · rename_i h
    have := (dnB_iff 16 A).1 hA j (by omega)
    omega
  · omega
theorem fro_end {A B : List Int} (h : pre2 A B) (j : Nat) : fro A B A.length j = if j < pofN A B then pofG A B j else 0 := by
  obtain ⟨hA, hB, hl⟩ := id h
  have hN := pofN_ge h
  rw [fro_eq]
  by_cases h1 : j < A.length
  · rw [if_pos h1, if_pos (by omega), pofG, if_pos h1]
    have : nb (fun i => decide (i + 1 ≤ j) && decide ((j : Int) ≤ i + B.getD i 0)) A.length = min A.length j := nb_to _ fun i hi => by
      have := dn_low hB i (by omega)
      rw [Bool.and_eq_true, decide_eq_true_eq, decide_eq_true_eq]
      omega
    rw [this]
    omega
  · rw [if_neg h1]
    have e : nb (fun i => decide (i + 1 ≤ j) && decide ((j : Int) ≤ i + B.getD i 0)) A.length = leg B j := by
      unfold leg
      rw [← hl]
      have : ∀ n, n ≤ A.length → nb (fun i => decide (i + 1 ≤ j) && decide ((j : Int) ≤ i + B.getD i 0)) n = nb (fun i => decide ((j : Int) ≤ B.getD i 0 + i)) n := by
        intro n
        induction n with
        | zero => intro _; rfl
        | succ n ih =>
          intro hn
          rw [nb, nb, ih (by omega)]
          congr 1
          rw [decide_eq_true (by omega : n + 1 ≤ j), Bool.true_and, Int.add_comm]
      exact this _ (Nat.le_refl _)
    rw [e]
    by_cases h2 : j < pofN A B
    · rw [if_pos h2, pofG, if_neg h1]; omega
    · rw [if_neg h2]
      unfold pofN at h2
      split at h2
      · rename_i h0
        unfold leg
        rw [← hl, h0]
        rfl
      · have h5 := (dnB_iff 16 B).1 hB 0 (by omega)
        rw [leg_zero hB (by omega)]; omega
theorem fmid_end {A B : List Int} (h : pre2 A B) : fmid A B A.length false 0 = pad (pof A B) := by
  have hN := pofN_ge h
  have hl : (pof A B).length ≤ 16 := by rw [pof_len]; exact hN.2
  apply List.ext_getElem
  · rw [fmid_len, pad_len hl]
  · intro j h1 h2
    rw [fmid_get]
    have e := pad_getD hl j
    rw [getD_lt h2, pof_getD] at e
    rw [e, fro_end h]
    simp
    omega
/-- the sum of the program's diagram -/
theorem sumTo_ctr (A B : List Int) (i : Nat) (hi : i < 16) (hA : 0 ≤ B.getD i 0) (hB : i + B.getD i 0 ≤ 15) : ∀ n, (n : Nat) ≤ 16 → sumTo ((List.range 16).map fun j => ctr A B i j) n = (if i < n then 1 + A.getD i 0 else 0) + (if (n : Int) ≤ i + 1 then 0 else if (n : Int) ≤ i + 1 + B.getD i 0 then (n : Int) - (i + 1) else B.getD i 0) := by
  intro n
  induction n with
  | zero => intro _; simp [sumTo]; omega
  | succ n ih =>
    intro hn
    have e : ((List.range 16).map fun j => ctr A B i j).getD n 0 = ctr A B i n := by rw [getD_lt (by simp; omega)]; simp
    rw [sumTo, ih (by omega), e, ctr]
    (repeat' split) <;> omega
theorem sumTo_fro (A B : List Int) (m : Nat) : ∀ d, sumTo ((List.range 16).map fun j => fro A B (d + 1) j) m = sumTo ((List.range 16).map fun j => fro A B d j) m + sumTo ((List.range 16).map fun j => ctr A B d j) m := by
  intro d
  induction m with
  | zero => rfl
  | succ m ih =>
    rw [sumTo, sumTo, sumTo, ih]
    have e : ∀ (f : Nat → Int), ((List.range 16).map f).getD m 0 = if m < 16 then f m else 0 := fun f => by
      by_cases h : m < 16
      · rw [getD_lt (by simp; exact h), if_pos h]; simp
      · rw [getD_ge (by simp; omega), if_neg h]
    rw [e, e, e]
    split
    · rw [fro]; omega
    · omega
theorem pof_sum {A B : List Int} (h : pre2 A B) : sumL (pof A B) = sumL A + sumL B + A.length := by
  obtain ⟨hA, hB, hl⟩ := id h
  have hN := pofN_ge h
  have key : ∀ d, d ≤ A.length → sumTo ((List.range 16).map fun j => fro A B d j) 16 = sumTo A d + sumTo B d + d := by
    intro d
    induction d with
    | zero =>
      intro _
      have : ∀ n, sumTo ((List.range 16).map fun j => fro A B 0 j) n = 0 := by
        intro n
        induction n with
        | zero => rfl
        | succ n ih =>
          rw [sumTo, ih]
          rcases Nat.lt_or_ge n 16 with h | h
          · rw [getD_lt (by simp; exact h)]; simp [fro]
          · rw [getD_ge (by simp; omega)]; rfl
      rw [this]; rfl
    | succ d ih =>
      intro hd
      have h1 := (dnB_iff 16 B).1 hB d (by omega)
      have h2 := dn_gap hB d 0 (by omega) (by omega)
      have h3 := (dnB_iff 16 B).1 hB 0 (by omega)
      rw [sumTo_fro, ih (by omega), sumTo_ctr A B d (by omega) h1.1 (by omega) 16 (Nat.le_refl _), sumTo, sumTo]
      (repeat' split) <;> omega
  have e := key A.length (Nat.le_refl _)
  rw [sumTo_all A _ (Nat.le_refl _), sumTo_all B _ (by omega)] at e
  have e2 : ((List.range 16).map fun j => fro A B A.length j) = pad (pof A B) := by
    rw [← fmid_end h]
    unfold fmid
    apply List.map_congr_left
    intro j _
    simp
    omega
  rw [e2] at e
  have hl2 : (pof A B).length ≤ 16 := by rw [pof_len]; exact hN.2
  have e3 : sumTo (pad (pof A B)) 16 = sumTo (pof A B) 16 := by
    have : ∀ n, sumTo (pad (pof A B)) n = sumTo (pof A B) n := by
      intro n
      induction n with
      | zero => rfl
      | succ n ih => rw [sumTo, sumTo, ih, pad_getD hl2]
    exact this 16
  rw [e3, sumTo_all _ 16 hl2] at e
  exact e
theorem valid_pof {A B : List Int} (h0 : pofOk A B = true) : valid (pof A B) = true := by
  have h := pofOk_pre h0
  have hN := pofN_ge h
  have hs := pof_sum h
  have ho := (pofOk_out h0).2.2.2
  apply valid_of_preS _ (by omega)
  have hge : ∀ x ∈ pof A B, 0 ≤ x := fun x hx => by
    obtain ⟨k, hk, rfl⟩ := List.getElem_of_mem hx
    rw [← getD_lt hk, pof_getD]
    split
    · rename_i h1; have := pof_pos h h1; omega
    · omega
  intro j hj _
  have hj2 : j < pofN A B := by rw [pof_len] at hj; exact hj
  have hb := (elem_le_sum hge hj).1
  have e : (pof A B)[j] = pofG A B j := by rw [← getD_lt hj, pof_getD, if_pos hj2]
  have hp := pof_pos h hj2
  refine ⟨by omega, by omega, fun hj0 => ?_⟩
  have e2 : (pof A B)[j - 1]'(by omega) = pofG A B (j - 1) := by rw [← getD_lt (by omega), pof_getD, if_pos (by omega)]
  have := pof_fall h (j := j - 1) (by omega)
  rw [show j - 1 + 1 = j by omega] at this
  omega
def pofF (A B : List Int) : List Int := if pofOk A B then pof A B else []
theorem pofF_yes {A B : List Int} (h : pofOk A B = true) : pofF A B = pof A B := by simp [pofF, h]
theorem pofF_no {A B : List Int} (h : pofOk A B = false) : pofF A B = [] := by simp [pofF, h]
theorem pofF_len (A B : List Int) : (pofF A B).length ≤ 16 := by
  unfold pofF
  split
  · rename_i h; rw [pof_len]; exact (pofN_ge (pofOk_pre h)).2
  · simp
theorem conj_getD' {L : List Int} (h : valid L = true) (j : Nat) : (conj L).getD j 0 = cnt ((j : Int) + 1) L := by
  rcases Nat.lt_or_ge j (conj L).length with h1 | h1
  · rw [getD_lt h1, conj_get]
  · rw [getD_ge h1]
    rw [conj_len] at h1
    exact (cnt_none fun x hx => by have := head_ge h x hx; omega).symm
theorem dur_lt {L : List Int} {i : Nat} (h : i < durS L) : (i : Int) < L.getD i 0 := (durS_spec L).2.1 i h
theorem froA_dn {L : List Int} (hv : valid L = true) : dnB 16 (froA L) = true := by
  rw [dnB_iff]
  intro i hi
  unfold froA at hi ⊢
  rw [armsTo_len] at hi
  rw [armsTo_getD _ _ _ hi]
  have h1 := dur_lt hi
  have h2 := getD_nn hv i
  refine ⟨by omega, by omega, fun h0 => ?_⟩
  rw [armsTo_getD _ _ _ (by omega)]
  have := getD_fall hv i h0
  omega
theorem froA_conj {L : List Int} (hv : valid L = true) : froA (conj L) = froB L := by unfold froA froB; rw [durS_conj hv]
theorem froB_conj {L : List Int} (hv : valid L = true) : froB (conj L) = froA L := by unfold froA froB; rw [durS_conj hv, conj_conj hv]
theorem fro_pre {L : List Int} (hv : valid L = true) : pre2 (froA L) (froB L) :=
  ⟨froA_dn hv, by rw [← froA_conj hv]; exact froA_dn (valid_conj hv), by unfold froA froB; rw [armsTo_len, armsTo_len]⟩
theorem pof_fro {L : List Int} (hv : valid L = true) : pof (froA L) (froB L) = L := by
  have hA : (froA L).length = durS L := armsTo_len _ _
  have hB : (froB L).length = durS L := armsTo_len _ _
  have hds := durS_spec L
  have hlen : pofN (froA L) (froB L) = L.length := by
    unfold pofN
    rw [hA]
    have h0 := durS_pos hv
    split
    · omega
    · unfold froB
      rw [armsTo_getD _ _ _ (by omega)]
      have hc := head_conj hv
      have e : (conj L).getD 0 0 = (conj L).headD 0 := by cases conj L <;> rfl
      rw [e]
      have := headD_bd (valid_conj hv)
      omega
  apply List.ext_getElem
  · rw [pof_len, hlen]
  · intro j h1 h2
    rw [← getD_lt h1, ← getD_lt h2, pof_getD, if_pos (by omega), pofG, hA]
    by_cases hj : j < durS L
    · rw [if_pos hj]
      unfold froA
      rw [armsTo_getD _ _ _ hj]
      omega
    · rw [if_neg hj]
      have hle : L.getD j 0 ≤ durS L := by
        have h3 : L.getD j 0 ≤ L.getD (durS L) 0 := by
          rw [getD_lt h2, getD_lt (by omega)]
          exact falls_all hv j (durS L) h2 (by omega)
        have := hds.2.2
        omega
      have hnn := getD_nn hv j
      have : leg (froB L) j = min (durS L) (L.getD j 0).toNat := by
        unfold leg
        rw [hB]
        refine nb_to _ fun i hi => ?_
        have e : (froB L).getD i 0 = (conj L).getD i 0 - ((i : Int) + 1) := by unfold froB; exact armsTo_getD _ _ _ hi
        rw [decide_eq_true_eq, e, conj_getD' hv]
        have := cnt_ge_iff hv h2 ((i : Int) + 1)
        rw [getD_lt h2] at hnn ⊢
        omega
      rw [this]
      omega
theorem pofOk_fro {L : List Int} (hv : valid L = true) : pofOk (froA L) (froB L) = true := by
  have hp := fro_pre hv
  have hs := pof_sum hp
  rw [pof_fro hv] at hs
  have := (valid_bd hv).2.1
  unfold pofOk
  rw [hp.1, hp.2.1, decide_eq_true hp.2.2, decide_eq_true (by omega)]
  rfl
end NP
end Go.Proofs.Ythafbdpeignccaa
namespace Go.Proofs.Ythafbdpeignccaa
namespace NP
set_option linter.unusedVariables false
theorem nb_ge {q : Nat → Bool} {m : Nat} (n : Nat) (hm : m ≤ n) (h : ∀ i, i < m → q i = true) : m ≤ nb q n := by
  induction n with
  | zero => omega
  | succ n ih =>
    simp only [nb]
    rcases Nat.lt_or_ge n m with h1 | h1
    · have e := nb_all (q := q) n fun i hi => h i (by omega)
      rw [e, if_pos (h n h1)]; omega
    · have := ih h1
      omega
theorem nb_few {q : Nat → Bool} {m : Nat} (n : Nat) (h : ∀ i, i < n → q i = true → i < m) : nb q n ≤ m := by
  have key : nb q n ≤ nb (fun i => decide (i < m)) n := nb_mono n fun i hi hq => decide_eq_true (h i hi hq)
  have e : nb (fun i => decide (i < m)) n = min n m := nb_to n fun i _ => by simp
  omega
theorem pof_dur {A B : List Int} (h : pofOk A B = true) : durS (pof A B) = A.length := by
  have hp := pofOk_pre h
  have hN := pofN_ge hp
  refine durS_unique (fun j hj => ?_) ?_
  · rw [pof_getD, if_pos (by omega), pofG, if_pos hj]
    have := (dnB_iff 16 A).1 hp.1 j hj
    omega
  · rw [pof_getD]
    split
    · rw [pofG, if_neg (by omega)]
      have := leg_le B A.length
      have := hp.2.2
      omega
    · omega
theorem froA_pof {A B : List Int} (h : pofOk A B = true) : froA (pof A B) = A := by
  have hp := pofOk_pre h
  have hN := pofN_ge hp
  unfold froA
  rw [pof_dur h]
  apply List.ext_getElem
  · rw [armsTo_len]
  · intro j h1 h2
    rw [← getD_lt h1, ← getD_lt h2, armsTo_getD _ _ _ h2, pof_getD, if_pos (by omega), pofG, if_pos h2]
    omega
theorem cnt_pof {A B : List Int} (h : pofOk A B = true) {i : Nat} (hi : i < A.length) : cnt ((i : Int) + 1) (pof A B) = B.getD i 0 + i + 1 := by
  have hp := pofOk_pre h
  have hN := pofN_ge hp
  have hv := valid_pof h
  have hl := hp.2.2
  have hb := (dnB_iff 16 B).1 hp.2.1 i (by omega)
  have hlow := dn_low hp.2.1 i (by omega)
  have hgap := dn_gap hp.2.1 i 0 (by omega) (by omega)
  have hb0 := (dnB_iff 16 B).1 hp.2.1 0 (by omega)
  have hNe : (pofN A B : Int) = B.getD 0 0 + 1 := by unfold pofN; rw [if_neg (by omega)]; omega
  obtain ⟨m, hm⟩ : ∃ m : Nat, (m : Int) = B.getD i 0 + i + 1 := ⟨(B.getD i 0 + i + 1).toNat, by omega⟩
  have hmN : m ≤ pofN A B := by omega
  have hlen := pof_len A B
  have lo : (m : Int) ≤ cnt ((i : Int) + 1) (pof A B) := by
    have h1 : m - 1 < (pof A B).length := by omega
    have h2 := (cnt_ge_iff hv h1 ((i : Int) + 1)).2 (by
      rw [← getD_lt h1, pof_getD, if_pos (by omega), pofG]
      split
      · have := dn_low hp.1 (m - 1) (by omega)
        omega
      · have : i + 1 ≤ leg B (m - 1) := nb_ge _ (by omega) fun i' hi' => decide_eq_true (by
          have := dn_gap hp.2.1 i i' (by omega) (by omega)
          omega)
        omega)
    omega
  have hi' : cnt ((i : Int) + 1) (pof A B) ≤ m := by
    rcases Nat.lt_or_ge m (pofN A B) with h1 | h1
    · have h2 : m < (pof A B).length := by omega
      have h3 := cnt_ge_iff hv h2 ((i : Int) + 1)
      have h4 : ¬ ((i : Int) + 1 ≤ (pof A B)[m]) := by
        rw [← getD_lt h2, pof_getD, if_pos h1, pofG, if_neg (by omega)]
        have : leg B m ≤ i := nb_few _ fun i' hi' hq => by
          have hq' := of_decide_eq_true hq
          rcases Nat.lt_or_ge i' i with h5 | h5
          · exact h5
          · have := dn_gap hp.2.1 i' i h5 hi'
            omega
        omega
      have : ¬ ((m : Int) + 1 ≤ cnt ((i : Int) + 1) (pof A B)) := fun hc => h4 (h3.1 hc)
      omega
    · have := (cnt_bd ((i : Int) + 1) (pof A B)).2
      omega
  omega
theorem froB_pof {A B : List Int} (h : pofOk A B = true) : froB (pof A B) = B := by
  have hp := pofOk_pre h
  unfold froB
  rw [pof_dur h]
  apply List.ext_getElem
  · rw [armsTo_len]; exact hp.2.2
  · intro j h1 h2
    have hj : j < A.length := by rw [armsTo_len] at h1; exact h1
    rw [← getD_lt h1, ← getD_lt h2, armsTo_getD _ _ _ hj, conj_getD' (valid_pof h), cnt_pof h hj]
    omega
end NP
end Go.Proofs.Ythafbdpeignccaa
namespace Go.Proofs.Ythafbdpeignccaa
namespace NP
set_option linter.unusedVariables false
def allTo (p : Nat → Bool) (n : Nat) : Bool := (List.range n).all p
theorem allTo_iff (p : Nat → Bool) (n : Nat) : allTo p n = true ↔ ∀ j, j < n → p j = true := by simp [allTo]
theorem allTo_no {p : Nat → Bool} {n j : Nat} (hj : j < n) (h : p j = false) : allTo p n = false := by
  cases e : allTo p n with
  | false => rfl
  | true => rw [(allTo_iff p n).1 e j hj] at h; exact h
theorem allTo_yes {p : Nat → Bool} {n : Nat} (h : ∀ j, j < n → p j = true) : allTo p n = true := (allTo_iff p n).2 h

def kRem (m r : Int) (L : List Int) : Bool := allTo (fun j => L.getD j 0 % m == r || L.getD j 0 % m == m - r) L.length
def kFall (s t : Int) (L : List Int) : Bool := allTo (fun j => decide ((if L.getD j 0 % 3 = 0 then t else s) ≤ L.getD j 0 - L.getD (j + 1) 0)) (L.length - 1)
def kSelf (L : List Int) : Bool := decide (L = conj L)
def kNoOne (L : List Int) : Bool := allTo (fun j => decide (L.getD j 0 ≠ 1)) L.length
def kNone (m : Nat) (L : List Int) : Bool := allTo (fun j => decide (L.getD j 0 ≠ L.getD (j + (m - 1)) 0)) (L.length - (m - 1))

/-- a stair -/
def stairs (s : Nat) : List Int := (List.range s).map fun (i : Nat) => (s : Int) - (i : Int)
theorem stairs_len (s : Nat) : (stairs s).length = s := by simp [stairs]
theorem stairs_getD (s i : Nat) : (stairs s).getD i 0 = if i < s then (s : Int) - (i : Int) else 0 := by
  unfold stairs
  rw [List.getD_eq_getElem?_getD, List.getElem?_map]
  by_cases h : i < s
  · rw [List.getElem?_range h, if_pos h]; rfl
  · rw [List.getElem?_eq_none (by simp; omega), if_neg h]; rfl
theorem stairs_sum {s : Nat} (h : s ≤ 16) : sumL (stairs s) = (s : Int) * ((s : Int) + 1) / 2 := by
  have : ∀ s : Nat, s < 17 → sumL (stairs s) = (s : Int) * ((s : Int) + 1) / 2 := by decide +kernel
  exact this s (by omega)
theorem stairs_mul {s : Nat} (h : s ≤ 16) : 0 ≤ (s : Int) * ((s : Int) + 1) ∧ (s : Int) * ((s : Int) + 1) ≤ 272 := by
  have : ∀ s : Nat, s < 17 → 0 ≤ (s : Int) * ((s : Int) + 1) ∧ (s : Int) * ((s : Int) + 1) ≤ 272 := by decide +kernel
  exact this s (by omega)
theorem stairs_five {s : Nat} (h : s ≤ 16) (h2 : (s : Int) * ((s : Int) + 1) / 2 ≤ 16) : s ≤ 5 := by
  have : ∀ s : Nat, s < 17 → (s : Int) * ((s : Int) + 1) / 2 ≤ 16 → s ≤ 5 := by decide +kernel
  exact this s (by omega) h2
theorem stairs_valid {s : Nat} (h : s ≤ 5) : valid (stairs s) = true := by
  have : ∀ s : Nat, s < 6 → valid (stairs s) = true := by decide +kernel
  exact this s (by omega)
def stOk (P : List Int) (k : Int) : Bool := valid P && decide ((P.length : Int) ≤ k) && decide (k ≤ 16) && decide (sumL P + k * (k + 1) / 2 ≤ 16)
def stPut (P : List Int) (k : Int) : List Int := adp P (stairs k.toNat)
def stPutF (P : List Int) (k : Int) : List Int := if stOk P k then stPut P k else []
theorem stPutF_yes {P : List Int} {k : Int} (h : stOk P k = true) : stPutF P k = stPut P k := by simp [stPutF, h]
theorem stPutF_no {P : List Int} {k : Int} (h : stOk P k = false) : stPutF P k = [] := by simp [stPutF, h]
theorem stOk_iff (P : List Int) (k : Int) : stOk P k = true ↔ valid P = true ∧ (P.length : Int) ≤ k ∧ k ≤ 16 ∧ sumL P + k * (k + 1) / 2 ≤ 16 := by
  unfold stOk; simp only [Bool.and_eq_true, decide_eq_true_eq, and_assoc]
theorem st_put {P : List Int} {s : Nat} (h : stOk P s = true) : s ≤ 5 ∧ two P (stairs s) = true ∧ valid (stPut P s) = true ∧ stPut P s = adp P (stairs s) := by
  obtain ⟨hv, hl, h16, hs⟩ := (stOk_iff _ _).1 h
  have hb := valid_bd hv
  have h5 : s ≤ 5 := stairs_five (by omega) (by omega)
  have ht : two P (stairs s) = true := by
    unfold two
    rw [hv, stairs_valid h5, stairs_sum (by omega)]
    simp only [Bool.and_self, Bool.true_and, decide_eq_true_eq]
    exact hs
  have he : stPut P s = adp P (stairs s) := by unfold stPut; rw [Int.toNat_natCast]
  exact ⟨h5, ht, he ▸ valid_adp ht, he⟩
theorem stPutF_len (P : List Int) (k : Int) : (stPutF P k).length ≤ 16 := by
  unfold stPutF
  split
  · rename_i h
    have h1 := (stOk_iff _ _).1 h
    obtain ⟨s, rfl⟩ := Int.eq_ofNat_of_zero_le (show 0 ≤ k by omega)
    exact (valid_bd (st_put h).2.2.1).2.2.2
  · simp

/-- what is left on a stair -/
def stT (L : List Int) (k : Nat) : List Int := ((List.range k).filter fun (i : Nat) => decide (0 < L.getD i 0 - ((L.length : Int) - (i : Int)))).map fun (i : Nat) => L.getD i 0 - ((L.length : Int) - (i : Int))
theorem stT_succ (L : List Int) (k : Nat) : stT L (k + 1) = stT L k ++ if 0 < L.getD k 0 - ((L.length : Int) - (k : Int)) then [L.getD k 0 - ((L.length : Int) - (k : Int))] else [] := by
  unfold stT
  rw [List.range_succ, List.filter_append, List.map_append]
  obtain ⟨f, hf⟩ : ∃ f : Nat → Int, ∀ i, L.getD i 0 - ((L.length : Int) - (i : Int)) = f i := ⟨_, fun _ => rfl⟩
  simp only [hf]
  congr 1
  by_cases h : 0 < f k <;> simp [h]
theorem stT_len (L : List Int) (k : Nat) : (stT L k).length ≤ k := by
  unfold stT
  rw [List.length_map]
  exact Nat.le_trans (List.length_filter_le _ _) (by simp)
def stCut (L : List Int) : List Int := stT L L.length
def stArr (L : List Int) : List Int := (List.range 16).map fun (j : Nat) => if j < L.length then L.getD j 0 - ((L.length : Int) - (j : Int)) else 0
def dis (L : List Int) : Bool := valid L && kFall 1 1 L
theorem dis_iff (L : List Int) : dis L = true ↔ valid L = true ∧ kFall 1 1 L = true := by unfold dis; simp
def stCutF (L : List Int) : List Int := if dis L then stCut L else []
theorem stCutF_yes {L : List Int} (h : dis L = true) : stCutF L = stCut L := by simp [stCutF, h]
theorem stCutF_no {L : List Int} (h : dis L = false) : stCutF L = [] := by simp [stCutF, h]
def stN (L : List Int) : Int := if dis L then (L.length : Int) else 0
theorem stN_yes {L : List Int} (h : dis L = true) : stN L = (L.length : Int) := by simp [stN, h]
theorem stN_no {L : List Int} (h : dis L = false) : stN L = 0 := by simp [stN, h]
def stTab (N : List Nat) : Bool :=
  let L := N.map Int.ofNat
  !kFall 1 1 L || valid (stCut L) && decide (pad (stCut L) = stArr L) && stOk (stCut L) L.length && decide (stPut (stCut L) L.length = L) && decide (L.length ≤ 5)
set_option maxRecDepth 100000 in
theorem stTab_all : all16.all stTab = true := by decide +kernel
theorem st_facts {L : List Int} (h : dis L = true) : valid (stCut L) = true ∧ pad (stCut L) = stArr L ∧ stOk (stCut L) L.length = true ∧ stPut (stCut L) L.length = L ∧ L.length ≤ 5 := by
  obtain ⟨hv, hk⟩ := (dis_iff L).1 h
  obtain ⟨N, hN, rfl⟩ := of_all stTab_all hv
  simp only [stTab, Bool.or_eq_true, Bool.and_eq_true, decide_eq_true_eq, hk, Bool.not_true, Bool.false_eq_true, false_or] at hN
  obtain ⟨⟨⟨⟨h1, h2⟩, h3⟩, h4⟩, h5⟩ := hN
  exact ⟨h1, h2, h3, h4, h5⟩
theorem stCutF_len (L : List Int) : (stCutF L).length ≤ 16 := by
  unfold stCutF
  split
  · rename_i h; exact (valid_bd (st_facts h).1).2.2.2
  · simp
def stTab2 (N : List Nat) : Bool :=
  let P := N.map Int.ofNat
  (List.range 6).all fun s => !stOk P s || dis (stPut P s) && decide (stCut (stPut P s) = P) && decide ((stPut P s).length = s)
set_option maxRecDepth 100000 in
theorem stTab2_all : all16.all stTab2 = true := by decide +kernel
theorem st_back {P : List Int} {s : Nat} (h : stOk P s = true) : dis (stPut P s) = true ∧ stCut (stPut P s) = P ∧ (stPut P s).length = s := by
  obtain ⟨hv, -, -, -⟩ := (stOk_iff _ _).1 h
  have h5 := (st_put h).1
  obtain ⟨N, hN, rfl⟩ := of_all stTab2_all hv
  have hs := List.all_eq_true.1 hN s (by simp; omega)
  simp only [Bool.or_eq_true, Bool.and_eq_true, decide_eq_true_eq, h, Bool.not_true, Bool.false_eq_true, false_or] at hs
  exact ⟨hs.1.1, hs.1.2, hs.2⟩

/-- hooks of the diagonal of own conjugates -/
def h2o (L : List Int) : List Int := (froA L).map fun a => a + 1 + a
def slf (L : List Int) : Bool := valid L && kSelf L
theorem slf_iff (L : List Int) : slf L = true ↔ valid L = true ∧ kSelf L = true := by unfold slf; simp
def h2oF (L : List Int) : List Int := if slf L then h2o L else []
theorem h2oF_yes {L : List Int} (h : slf L = true) : h2oF L = h2o L := by simp [h2oF, h]
theorem h2oF_no {L : List Int} (h : slf L = false) : h2oF L = [] := by simp [h2oF, h]
def halves (P : List Int) : List Int := P.map fun x => x / 2
def o2h (P : List Int) : List Int := pof (halves P) (halves P)
def dod (L : List Int) : Bool := valid L && (kRem 2 1 L && kFall 1 1 L)
theorem dod_iff (L : List Int) : dod L = true ↔ valid L = true ∧ kRem 2 1 L = true ∧ kFall 1 1 L = true := by unfold dod; simp
def o2hF (L : List Int) : List Int := if dod L then o2h L else []
theorem o2hF_yes {L : List Int} (h : dod L = true) : o2hF L = o2h L := by simp [o2hF, h]
theorem o2hF_no {L : List Int} (h : dod L = false) : o2hF L = [] := by simp [o2hF, h]
def hoTab (N : List Nat) : Bool :=
  let L := N.map Int.ofNat
  (!kSelf L || dod (h2o L) && decide (o2h (h2o L) = L) && decide ((h2o L).length = durS L) && decide (sumL (h2o L) = sumL L)) &&
  (!(kRem 2 1 L && kFall 1 1 L) || pofOk (halves L) (halves L) && slf (o2h L) && decide (h2o (o2h L) = L))
set_option maxRecDepth 100000 in
theorem hoTab_all : all16.all hoTab = true := by decide +kernel
theorem h2o_facts {L : List Int} (h : slf L = true) : dod (h2o L) = true ∧ o2h (h2o L) = L ∧ (h2o L).length = durS L ∧ sumL (h2o L) = sumL L := by
  obtain ⟨hv, hk⟩ := (slf_iff L).1 h
  obtain ⟨N, hN, rfl⟩ := of_all hoTab_all hv
  simp only [hoTab, Bool.or_eq_true, Bool.and_eq_true, decide_eq_true_eq, hk, Bool.not_true, Bool.false_eq_true, false_or] at hN
  exact ⟨hN.1.1.1.1, hN.1.1.1.2, hN.1.1.2, hN.1.2⟩
theorem o2h_facts {L : List Int} (h : dod L = true) : pofOk (halves L) (halves L) = true ∧ slf (o2h L) = true ∧ h2o (o2h L) = L := by
  obtain ⟨hv, hk1, hk2⟩ := (dod_iff L).1 h
  obtain ⟨N, hN, rfl⟩ := of_all hoTab_all hv
  simp only [hoTab, Bool.or_eq_true, Bool.and_eq_true, decide_eq_true_eq, hk1, hk2, Bool.and_self, Bool.not_true, Bool.false_eq_true, false_or] at hN
  exact ⟨hN.2.1.1, hN.2.1.2, hN.2.2⟩
theorem h2oF_len (L : List Int) : (h2oF L).length ≤ 16 := by
  unfold h2oF
  split
  · rename_i h; exact (valid_bd ((dod_iff _).1 (h2o_facts h).1).1).2.2.2
  · simp
theorem o2hF_len (L : List Int) : (o2hF L).length ≤ 16 := by
  unfold o2hF
  split
  · rename_i h; exact (valid_bd ((slf_iff _).1 (o2h_facts h).2.1).1).2.2.2
  · simp

/-- Franklin's map -/
def slp (L : List Int) : Nat := ff (fun n => decide (L.getD n 0 = L.getD 0 0 - (n : Int))) L.length
def lastP (L : List Int) : Int := L.getD (L.length - 1) 0
def frA (L : List Int) : List Int := (List.range (L.length - 1)).map fun (j : Nat) => L.getD j 0 + if (j : Int) < lastP L then 1 else 0
def frB (L : List Int) : List Int := ((List.range L.length).map fun (j : Nat) => L.getD j 0 - if j < slp L then 1 else 0) ++ [(slp L : Int)]
def fr (L : List Int) : List Int := if lastP L ≤ (slp L : Int) then frA L else frB L
def mayS (L : List Int) : Bool := decide (0 < L.length) && (decide (slp L < L.length) || (decide (lastP L ≠ (L.length : Int)) && decide (lastP L ≠ (L.length : Int) + 1)))
def frOk (L : List Int) : Bool := valid L && (kFall 1 1 L && mayS L)
theorem frOk_iff (L : List Int) : frOk L = true ↔ valid L = true ∧ kFall 1 1 L = true ∧ mayS L = true := by unfold frOk; simp
def frF (L : List Int) : List Int := if frOk L then fr L else []
theorem frF_yes {L : List Int} (h : frOk L = true) : frF L = fr L := by simp [frF, h]
theorem frF_no {L : List Int} (h : frOk L = false) : frF L = [] := by simp [frF, h]
def frTab (N : List Nat) : Bool :=
  let L := N.map Int.ofNat
  !(kFall 1 1 L && mayS L) || frOk (fr L) && decide (fr (fr L) = L) && decide (sumL (fr L) = sumL L) && (decide ((fr L).length = L.length + 1) || decide ((fr L).length + 1 = L.length)) &&
   decide (slp L ≤ L.length) && decide (1 ≤ lastP L) && decide (L.length ≤ 5) && (!decide (lastP L ≤ (slp L : Int)) || decide (lastP L ≤ (L.length : Int) - 1))
set_option maxRecDepth 100000 in
theorem frTab_all : all16.all frTab = true := by decide +kernel
theorem fr_facts {L : List Int} (h : frOk L = true) : frOk (fr L) = true ∧ fr (fr L) = L ∧ sumL (fr L) = sumL L ∧ ((fr L).length = L.length + 1 ∨ (fr L).length + 1 = L.length) ∧ slp L ≤ L.length ∧ 1 ≤ lastP L ∧ L.length ≤ 5 ∧ (lastP L ≤ (slp L : Int) → lastP L ≤ (L.length : Int) - 1) := by
  obtain ⟨hv, hk1, hk2⟩ := (frOk_iff L).1 h
  obtain ⟨N, hN, rfl⟩ := of_all frTab_all hv
  simp only [frTab, Bool.or_eq_true, Bool.and_eq_true, decide_eq_true_eq, hk1, hk2, Bool.and_self, Bool.not_true, Bool.false_eq_true, false_or] at hN
  obtain ⟨⟨⟨⟨⟨⟨⟨h1, h2⟩, h3⟩, h4⟩, h5⟩, h6⟩, h7⟩, h8⟩ := hN
  exact ⟨h1, h2, h3, h4, h5, h6, h7, fun hc => by simpa [hc] using h8⟩
theorem frF_len (L : List Int) : (frF L).length ≤ 16 := by
  unfold frF
  split
  · rename_i h; exact (valid_bd ((frOk_iff _).1 (fr_facts h).1).1).2.2.2
  · simp
end NP
end Go.Proofs.Ythafbdpeignccaa
namespace Go.Proofs.Ythafbdpeignccaa
open Go.RowKit NP
set_option linter.unusedVariables false
def beqZ : List Int → List Int → Bool
  | [], [] => true
  | x :: r, y :: q => if x = y then beqZ r q else false
  | _, _ => false
def fM (m : Int) (x y : Int) : Int × Int := (x % m, y + x / m)
def fS (m : Int) (x y : Int) : Int × Int := (x + y * m, 0)
/-- how often two numbers come, moved -/
def pstep (m : Nat) (f : Int → Int → Int × Int) (T : List Int) (k : Nat) : List Int := (T.set k (f (T.getD k 0) (T.getD (k * m) 0)).1).set (k * m) (f (T.getD k 0) (T.getD (k * m) 0)).2
def pass (m : Nat) (f : Int → Int → Int × Int) (T : List Int) : List Int := (List.range (16 / m)).foldl (fun T i => pstep m f T (i + 1)) T
def passN (m : Nat) (f : Int → Int → Int × Int) : Nat → List Int → List Int
  | 0, T => T
  | n + 1, T => passN m f n (pass m f T)
/-- the model's putting together: one number -/
def puStep (m : Nat) (out : List Int) (k : Nat) : List Int :=
  out.filter (fun x => x != (k : Int)) ++ List.replicate (out.countP (fun x => x == (k : Int)) / m) ((k * m : Nat) : Int) ++ List.replicate (out.countP (fun x => x == (k : Int)) % m) (k : Int)
def puF (m : Nat) (P : List Int) : List Int := mrg ((List.range (sumL P).toNat).foldl (fun out i => puStep m out (i + 1)) P)
/-- the model's taking apart: one part -/
def soG (m : Nat) : Nat → Nat → Nat → Nat × Nat
  | 0, x, n => (x, n)
  | f + 1, x, n => if x % m = 0 then soG m f (x / m) (n * m) else (x, n)
def soL (m : Nat) (x : Int) : List Int := List.replicate (soG m 5 x.toNat 1).2 ((soG m 5 x.toNat 1).1 : Int)
def soF (m : Nat) (P : List Int) : List Int := mrg (P.flatMap (soL m))
def noDiv (m : Nat) (P : List Int) : Bool := P.all fun x => x % (m : Int) != 0
def inR (T : List Int) : Bool := T.all fun x => decide (0 ≤ x) && decide (x ≤ 16)
/-- each tally on the way is of small numbers -/
def stOk (m : Nat) (f : Int → Int → Int × Int) : Nat → Nat → List Int → Bool
  | 0, _, T => inR T
  | n + 1, i, T => inR T && stOk m f n (i + 1) (pstep m f T (i + 1))
def passOk (m : Nat) (f : Int → Int → Int × Int) : Nat → List Int → Bool
  | 0, _ => true
  | n + 1, T => stOk m f (16 / m) 0 T && passOk m f n (pass m f T)
/-- what is put together: by the model, by the program; and taken apart again -/
def mt1 (m : Nat) (P : List Int) : Bool :=
  valid (puF m P) && beqZ (passN m (fM m) 1 (tlyL P)) (tlyL (puF m P)) && beqZ (pass m (fM m) (tlyL (puF m P))) (tlyL (puF m P)) && passOk m (fM m) 2 (tlyL P) && beqZ (soF m (puF m P)) P && kNone m (puF m P) && sumL (puF m P) == sumL P
def st1 (m : Nat) (P : List Int) : Bool :=
  valid (soF m P) && beqZ (passN m (fS m) 4 (tlyL P)) (tlyL (soF m P)) && beqZ (pass m (fS m) (tlyL (soF m P))) (tlyL (soF m P)) && passOk m (fS m) 5 (tlyL P) && beqZ (puF m (soF m P)) P && noDiv m (soF m P) && sumL (soF m P) == sumL P
end Go.Proofs.Ythafbdpeignccaa
namespace Go.Proofs.Ythafbdpeignccaa
open Go.RowKit NP
set_option linter.unusedVariables false
/-- a weight summed over a list -/
def Dw (W : Int → Int) : List Int → Int
  | [] => 0
  | x :: r => W x + Dw W r
theorem Dw_append (W : Int → Int) (a b : List Int) : Dw W (a ++ b) = Dw W a + Dw W b := by
  induction a with
  | nil => simp [Dw]
  | cons x r ih => simp only [List.cons_append, Dw, ih]; omega
theorem Dw_rep (W : Int → Int) (n : Nat) (x : Int) : Dw W (List.replicate n x) = (n : Int) * W x := by
  induction n with
  | zero => simp [Dw]
  | succ n ih => rw [List.replicate_succ, Dw, ih, Int.natCast_succ, Int.add_mul]; omega
theorem Dw_filter (W : Int → Int) (k : Int) (L : List Int) : Dw W (L.filter fun x => x != k) + eqc k L * W k = Dw W L := by
  induction L with
  | nil => simp [Dw, eqc]
  | cons x r ih =>
    by_cases h : x = k
    · subst h
      rw [List.filter_cons_of_neg (by simp), Dw, eqc_cons, if_pos rfl, Int.add_mul]; omega
    · rw [List.filter_cons_of_pos (by simpa using h), Dw, Dw, eqc_cons, if_neg h]
      rw [show (0 : Int) + eqc k r = eqc k r from by omega]; omega
theorem eqc_Dw (k : Int) (L : List Int) : eqc k L = Dw (fun x => if x = k then 1 else 0) L := by
  induction L with
  | nil => rfl
  | cons x r ih => rw [eqc_cons, Dw, ih]
theorem sum_Dw (L : List Int) : sumL L = Dw (fun x => x) L := by
  induction L with
  | nil => rfl
  | cons x r ih => rw [Dw, ← ih]; rfl
theorem len_Dw (L : List Int) : (L.length : Int) = Dw (fun _ => 1) L := by
  induction L with
  | nil => rfl
  | cons x r ih => rw [Dw, ← ih, List.length_cons]; omega
theorem cP_eqc (k : Int) (L : List Int) : ((L.countP fun x => x == k : Nat) : Int) = eqc k L := by
  induction L with
  | nil => rfl
  | cons x r ih =>
    rw [List.countP_cons, eqc_cons, ← ih]
    by_cases h : x = k
    · simp [h]; omega
    · simp [h]
theorem Dw_congr {W V : Int → Int} {L : List Int} (h : ∀ x ∈ L, W x = V x) : Dw W L = Dw V L := by
  induction L with
  | nil => rfl
  | cons x r ih => rw [Dw, Dw, h x (by simp), ih fun y hy => h y (by simp [hy])]
theorem Dw_add (W V : Int → Int) (L : List Int) : Dw (fun x => W x + V x) L = Dw W L + Dw V L := by
  induction L with
  | nil => rfl
  | cons x r ih => simp only [Dw, ih]; omega
theorem Dw_mul (c : Int) (V : Int → Int) (L : List Int) : Dw (fun x => c * V x) L = c * Dw V L := by
  induction L with
  | nil => simp [Dw]
  | cons x r ih => simp only [Dw, ih, Int.mul_add]
theorem Dw_zero {W : Int → Int} {L : List Int} (h : ∀ x ∈ L, W x = 0) : Dw W L = 0 := by
  induction L with
  | nil => rfl
  | cons x r ih => rw [Dw, h x (by simp), ih fun y hy => h y (by simp [hy])]; rfl
theorem Dw_of_eqc {A B : List Int} (h : ∀ k, eqc k A = eqc k B) (W : Int → Int) : Dw W A = Dw W B := by
  induction A generalizing B with
  | nil =>
    cases B with
    | nil => rfl
    | cons y s => have h1 := h y; have h2 := eqc_pos (k := y) (L := y :: s) (by simp); rw [← h1] at h2; simp [eqc] at h2
  | cons x r ih =>
    have hx : x ∈ B := eqc_mem (by rw [← h x]; exact eqc_pos (by simp))
    obtain ⟨b1, b2, rfl⟩ := List.append_of_mem hx
    have := ih (B := b1 ++ b2) (fun k => by
      have := h k
      rw [eqc_cons, eqc_append, eqc_cons] at this
      rw [eqc_append]; omega)
    rw [Dw_append] at this
    rw [Dw, Dw_append, Dw]; omega
/-- what is left out of a positive list keeps its sum below -/
theorem eqc_mul_le {L : List Int} (h : ∀ x ∈ L, 1 ≤ x) (k : Int) : eqc k L * k ≤ sumL L := by
  have h1 := Dw_filter (fun x => x) k L
  have h2 : ∀ M : List Int, (∀ x ∈ M, 1 ≤ x) → 0 ≤ Dw (fun x => x) M := by
    intro M
    induction M with
    | nil => intro _; exact Int.le_refl _
    | cons x r ih => intro hm; have := ih fun y hy => hm y (by simp [hy]); have := hm x (by simp); rw [Dw]; omega
  have h3 := h2 (L.filter fun x => x != k) fun x hx => h x (List.mem_filter.1 hx).1
  rw [sum_Dw]
  omega
theorem cK_lt {m k : Nat} {L : List Int} (hv : vsm L = true) (hk : 1 ≤ k) (h : 16 < k * m) : (L.countP fun x => x == (k : Int)) < m := by
  rcases Nat.lt_or_ge (L.countP fun x => x == (k : Int)) m with h1 | h1
  · exact h1
  · exfalso
    have h2 := eqc_mul_le (vsm_iff.1 hv).1 (k : Int)
    rw [← cP_eqc] at h2
    have h3 := (vsm_iff.1 hv).2
    have h4 : k * m ≤ (L.countP fun x => x == (k : Int)) * k := by rw [Nat.mul_comm k m]; exact Nat.mul_le_mul_right k h1
    have h5 : (((L.countP fun x => x == (k : Int)) * k : Nat) : Int) ≤ 16 := by rw [Int.natCast_mul]; omega
    omega
/-- one number taken apart -/
def spStep (m : Nat) (L : List Int) (k : Nat) : List Int := (L.filter fun x => x != ((k * m : Nat) : Int)) ++ List.replicate ((L.countP fun x => x == ((k * m : Nat) : Int)) * m) (k : Int)
theorem pu_Dw (W : Int → Int) (m : Nat) (L : List Int) (k : Nat) :
    Dw W (puStep m L k) + eqc k L * W k = Dw W L + (((L.countP fun x => x == (k : Int)) / m : Nat) : Int) * W ((k * m : Nat) : Int) + (((L.countP fun x => x == (k : Int)) % m : Nat) : Int) * W k := by
  unfold puStep
  rw [Dw_append, Dw_append, Dw_rep, Dw_rep]
  have := Dw_filter W (k : Int) L
  omega
theorem sp_Dw (W : Int → Int) (m : Nat) (L : List Int) (k : Nat) :
    Dw W (spStep m L k) + eqc ((k * m : Nat) : Int) L * W ((k * m : Nat) : Int) = Dw W L + (((L.countP fun x => x == ((k * m : Nat) : Int)) * m : Nat) : Int) * W k := by
  unfold spStep
  rw [Dw_append, Dw_rep]
  have := Dw_filter W ((k * m : Nat) : Int) L
  omega
theorem pu_inv (W : Int → Int) {m : Nat} {L : List Int} (hv : vsm L = true) {k : Nat} (hk : 1 ≤ k) (hW : k * m ≤ 16 → W ((k * m : Nat) : Int) = (m : Int) * W k) : Dw W (puStep m L k) = Dw W L := by
  have h := pu_Dw W m L k
  have hc := cP_eqc (k : Int) L
  rw [← hc] at h
  rcases Nat.lt_or_ge 16 (k * m) with h1 | h1
  · have h2 := cK_lt hv hk h1
    rw [Nat.div_eq_of_lt h2, Nat.mod_eq_of_lt h2] at h
    simp only [Int.natCast_zero, Int.zero_mul] at h
    omega
  · rw [hW h1] at h
    have h2 := Nat.div_add_mod (L.countP fun x => x == (k : Int)) m
    generalize (L.countP fun x => x == (k : Int)) / m = q at *
    generalize (L.countP fun x => x == (k : Int)) % m = r at *
    rw [← h2] at h
    have h3 : ((m * q + r : Nat) : Int) * W k = (q : Int) * ((m : Int) * W k) + (r : Int) * W k := by
      rw [Int.natCast_add, Int.natCast_mul, Int.add_mul, Int.mul_comm (m : Int) (q : Int), Int.mul_assoc]
    rw [h3] at h
    omega
theorem sp_inv (W : Int → Int) {m : Nat} {L : List Int} {k : Nat} (hW : W ((k * m : Nat) : Int) = (m : Int) * W k) : Dw W (spStep m L k) = Dw W L := by
  have h := sp_Dw W m L k
  rw [← cP_eqc, hW] at h
  generalize (L.countP fun x => x == ((k * m : Nat) : Int)) = q at *
  have h3 : ((q * m : Nat) : Int) * W k = (q : Int) * ((m : Int) * W k) := by
    rw [Int.natCast_mul, Int.mul_assoc]
  rw [h3] at h
  omega
theorem pu_vsm {m : Nat} (hm : 2 ≤ m) {L : List Int} (hv : vsm L = true) {k : Nat} (hk : 1 ≤ k) : vsm (puStep m L k) = true := by
  refine vsm_iff.2 ⟨fun x hx => ?_, ?_⟩
  · unfold puStep at hx
    rcases List.mem_append.1 hx with hx | hx
    · rcases List.mem_append.1 hx with hx | hx
      · exact (vsm_iff.1 hv).1 x (List.mem_filter.1 hx).1
      · rw [(List.mem_replicate.1 hx).2]
        have : 1 ≤ k * m := Nat.mul_pos (by omega) (by omega)
        omega
    · rw [(List.mem_replicate.1 hx).2]; omega
  · rw [sum_Dw, pu_inv _ hv hk (fun _ => by rw [Int.natCast_mul, Int.mul_comm]), ← sum_Dw]
    exact (vsm_iff.1 hv).2
theorem sp_vsm {m : Nat} {L : List Int} (hv : vsm L = true) {k : Nat} (hk : 1 ≤ k) : vsm (spStep m L k) = true := by
  refine vsm_iff.2 ⟨fun x hx => ?_, ?_⟩
  · unfold spStep at hx
    rcases List.mem_append.1 hx with hx | hx
    · exact (vsm_iff.1 hv).1 x (List.mem_filter.1 hx).1
    · rw [(List.mem_replicate.1 hx).2]; omega
  · rw [sum_Dw, sp_inv _ (by rw [Int.natCast_mul, Int.mul_comm]), ← sum_Dw]
    exact (vsm_iff.1 hv).2
theorem km_ne {k m : Nat} (hk : 1 ≤ k) (hm : 2 ≤ m) : k < k * m := by
  have : k * 2 ≤ k * m := Nat.mul_le_mul_left k hm
  omega
theorem pu_eqc {m : Nat} (hm : 2 ≤ m) (L : List Int) {k : Nat} (hk : 1 ≤ k) (v : Nat) :
    eqc v (puStep m L k) = if v = k then (((L.countP fun x => x == (k : Int)) % m : Nat) : Int) else if v = k * m then eqc v L + (((L.countP fun x => x == (k : Int)) / m : Nat) : Int) else eqc v L := by
  have h := pu_Dw (fun x => if x = (v : Int) then 1 else 0) m L k
  rw [← eqc_Dw, ← eqc_Dw] at h
  have hkm := km_ne hk hm
  by_cases h1 : v = k
  · subst h1
    simp only [if_true, if_neg (show ¬ (((v * m : Nat) : Int) = (v : Int)) from by omega), Int.mul_one, Int.mul_zero] at h ⊢
    omega
  · rw [if_neg h1]
    by_cases h2 : v = k * m
    · subst h2
      simp only [if_true, if_neg (show ¬ ((k : Int) = ((k * m : Nat) : Int)) from by omega), Int.mul_one, Int.mul_zero] at h ⊢
      omega
    · rw [if_neg h2]
      simp only [if_neg (show ¬ ((k : Int) = (v : Int)) from by omega), if_neg (show ¬ (((k * m : Nat) : Int) = (v : Int)) from by omega), Int.mul_zero] at h
      omega
theorem sp_eqc {m : Nat} (hm : 2 ≤ m) (L : List Int) {k : Nat} (hk : 1 ≤ k) (v : Nat) :
    eqc v (spStep m L k) = if v = k then eqc v L + (((L.countP fun x => x == ((k * m : Nat) : Int)) * m : Nat) : Int) else if v = k * m then 0 else eqc v L := by
  have h := sp_Dw (fun x => if x = (v : Int) then 1 else 0) m L k
  rw [← eqc_Dw, ← eqc_Dw] at h
  have hkm := km_ne hk hm
  by_cases h1 : v = k
  · subst h1
    simp only [if_true, if_neg (show ¬ (((v * m : Nat) : Int) = (v : Int)) from by omega), Int.mul_one, Int.mul_zero] at h ⊢
    omega
  · rw [if_neg h1]
    by_cases h2 : v = k * m
    · subst h2
      simp only [if_true, if_neg (show ¬ ((k : Int) = ((k * m : Nat) : Int)) from by omega), Int.mul_one, Int.mul_zero] at h ⊢
      omega
    · rw [if_neg h2]
      simp only [if_neg (show ¬ ((k : Int) = (v : Int)) from by omega), if_neg (show ¬ (((k * m : Nat) : Int) = (v : Int)) from by omega), Int.mul_zero] at h
      omega
theorem tly_pstep {m : Nat} {f : Int → Int → Int × Int} {L M : List Int} {k : Nat} (hk : 1 ≤ k) (hm : 2 ≤ m) (hkm : k * m ≤ 16) (h1 : eqc k M = (f (eqc k L) (eqc ((k * m : Nat) : Int) L)).1) (h2 : eqc ((k * m : Nat) : Int) M = (f (eqc k L) (eqc ((k * m : Nat) : Int) L)).2) (h3 : ∀ v : Nat, v ≠ k → v ≠ k * m → eqc v M = eqc v L) : tlyL M = pstep m f (tlyL L) k := by
  have hlt := km_ne hk hm
  have e1 : (tlyL L).getD k 0 = eqc k L := by
    rw [List.getD_eq_getElem?_getD, List.getElem?_eq_getElem (by rw [tlyL_len]; omega), Option.getD_some, tlyL_at L (by omega)]
  have e2 : (tlyL L).getD (k * m) 0 = eqc ((k * m : Nat) : Int) L := by
    rw [List.getD_eq_getElem?_getD, List.getElem?_eq_getElem (by rw [tlyL_len]; omega), Option.getD_some, tlyL_at L (by omega)]
  unfold pstep
  rw [e1, e2]
  apply List.ext_getElem
  · simp [tlyL_len]
  · intro v hv hv2
    have hv17 : v < 17 := by rwa [tlyL_len] at hv
    rw [tlyL_at M hv17, List.getElem_set]
    by_cases a : k * m = v
    · subst a; rw [if_pos rfl]; exact h2
    · rw [if_neg a, List.getElem_set]
      by_cases b : k = v
      · subst b; rw [if_pos rfl]; exact h1
      · rw [if_neg b, tlyL_at L hv17]; exact h3 v (fun e => b e.symm) (fun e => a e.symm)
theorem pu_tly {m : Nat} (hm : 2 ≤ m) (L : List Int) {k : Nat} (hk : 1 ≤ k) (hkm : k * m ≤ 16) : tlyL (puStep m L k) = pstep m (fM m) (tlyL L) k := by
  have hlt := km_ne hk hm
  refine tly_pstep hk hm hkm ?_ ?_ fun v a b => ?_
  · rw [pu_eqc hm L hk, if_pos rfl, Int.natCast_emod, cP_eqc]; rfl
  · rw [pu_eqc hm L hk, if_neg (by omega), if_pos rfl, Int.natCast_ediv, cP_eqc]; rfl
  · rw [pu_eqc hm L hk, if_neg a, if_neg b]
theorem sp_tly {m : Nat} (hm : 2 ≤ m) (L : List Int) {k : Nat} (hk : 1 ≤ k) (hkm : k * m ≤ 16) : tlyL (spStep m L k) = pstep m (fS m) (tlyL L) k := by
  have hlt := km_ne hk hm
  refine tly_pstep hk hm hkm ?_ ?_ fun v a b => ?_
  · rw [sp_eqc hm L hk, if_pos rfl, Int.natCast_mul, cP_eqc]; rfl
  · rw [sp_eqc hm L hk, if_neg (by omega), if_pos rfl]; rfl
  · rw [sp_eqc hm L hk, if_neg a, if_neg b]
theorem pu_len {m : Nat} (hm : 2 ≤ m) (L : List Int) {k : Nat} (hk : 1 ≤ k) : (puStep m L k).length < L.length ∨ (eqc k L < (m : Int) ∧ ∀ v, eqc v (puStep m L k) = eqc v L) := by
  have h := pu_Dw (fun _ => 1) m L k
  rw [← len_Dw, ← len_Dw, ← cP_eqc] at h
  simp only [Int.mul_one] at h
  have h2 := Nat.div_add_mod (L.countP fun x => x == (k : Int)) m
  have h4 := Nat.mod_lt (L.countP fun x => x == (k : Int)) (show 0 < m by omega)
  rcases Nat.eq_zero_or_pos ((L.countP fun x => x == (k : Int)) / m) with h3 | h3
  · right
    rw [h3, Nat.mul_zero] at h2
    refine ⟨by rw [← cP_eqc]; omega, fun v => ?_⟩
    have h5 := pu_Dw (fun x => if x = v then 1 else 0) m L k
    rw [← eqc_Dw, ← eqc_Dw, ← cP_eqc (k : Int), h3] at h5
    simp only [Int.natCast_zero, Int.zero_mul] at h5
    rw [show (L.countP fun x => x == (k : Int)) % m = (L.countP fun x => x == (k : Int)) from by omega] at h5
    omega
  · left
    have h6 : 2 * ((L.countP fun x => x == (k : Int)) / m) ≤ m * ((L.countP fun x => x == (k : Int)) / m) := Nat.mul_le_mul_right _ hm
    omega
theorem sp_len {m : Nat} (hm : 2 ≤ m) (L : List Int) {k : Nat} (hk : 1 ≤ k) : L.length < (spStep m L k).length ∨ (eqc ((k * m : Nat) : Int) L = 0 ∧ ∀ v, eqc v (spStep m L k) = eqc v L) := by
  have h := sp_Dw (fun _ => 1) m L k
  rw [← len_Dw, ← len_Dw, ← cP_eqc] at h
  simp only [Int.mul_one] at h
  rcases Nat.eq_zero_or_pos (L.countP fun x => x == ((k * m : Nat) : Int)) with h3 | h3
  · right
    refine ⟨by rw [← cP_eqc]; omega, fun v => ?_⟩
    have h5 := sp_Dw (fun x => if x = v then 1 else 0) m L k
    rw [← eqc_Dw, ← eqc_Dw, ← cP_eqc ((k * m : Nat) : Int), h3] at h5
    simp only [Nat.zero_mul, Int.natCast_zero, Int.zero_mul] at h5
    omega
  · left
    have h6 : (L.countP fun x => x == ((k * m : Nat) : Int)) * 2 ≤ (L.countP fun x => x == ((k * m : Nat) : Int)) * m := Nat.mul_le_mul_left _ hm
    omega
/-- how much of y is at k: so many of k make y -/
def wtN : Nat → Nat → Nat → Nat → Nat
  | 0, _, _, _ => 0
  | f + 1, m, k, y => if y = k then 1 else m * wtN f m (k * m) y
def wt (m k : Nat) (x : Int) : Int := (wtN 5 m k x.toNat : Int)
def wtTab : Bool := (List.range 17).all fun m => decide (m < 2) || (List.range 17).all fun k => decide (k < 1) || (List.range 17).all fun y => decide (y < 1) ||
  (wtN 5 m k y == (if y = k then 1 else 0) + m * wtN 5 m (k * m) y) && (k % m == 0 || ((y * m > 16 || wtN 5 m k (y * m) == m * wtN 5 m k y) && (wtN 5 m k y == (soG m 5 y 1).2 * (if (soG m 5 y 1).1 = k then 1 else 0)) && (y % m == 0 || wtN 5 m k y == (if y = k then 1 else 0))))
  && decide (1 ≤ (soG m 5 y 1).1) && ((soG m 5 y 1).1 % m != 0) && ((soG m 5 y 1).1 * (soG m 5 y 1).2 == y)
set_option maxRecDepth 100000 in
theorem wtTab_all : wtTab = true := by decide +kernel
theorem wtTab_at {m k y : Nat} (hm : 2 ≤ m ∧ m ≤ 16) (hk : 1 ≤ k ∧ k ≤ 16) (hy : 1 ≤ y ∧ y ≤ 16) :
    wtN 5 m k y = (if y = k then 1 else 0) + m * wtN 5 m (k * m) y ∧ (k % m ≠ 0 → (y * m ≤ 16 → wtN 5 m k (y * m) = m * wtN 5 m k y) ∧ wtN 5 m k y = (soG m 5 y 1).2 * (if (soG m 5 y 1).1 = k then 1 else 0) ∧ (y % m ≠ 0 → wtN 5 m k y = if y = k then 1 else 0)) ∧
    1 ≤ (soG m 5 y 1).1 ∧ (soG m 5 y 1).1 % m ≠ 0 ∧ (soG m 5 y 1).1 * (soG m 5 y 1).2 = y := by
  have h := wtTab_all
  unfold wtTab at h
  simp only [List.all_eq_true, List.mem_range, Bool.or_eq_true, Bool.and_eq_true, decide_eq_true_eq, beq_iff_eq, bne_iff_ne] at h
  have h1 := ((h m (by omega)).resolve_left (by omega) k (by omega)).resolve_left (by omega) y (by omega) |>.resolve_left (by omega)
  obtain ⟨⟨⟨⟨h2, h3⟩, h4⟩, h5⟩, h6⟩ := h1
  refine ⟨h2, fun hn => ?_, h4, h5, h6⟩
  obtain ⟨⟨a, b⟩, c⟩ := h3.resolve_left hn
  exact ⟨fun hl => a.resolve_left (by omega), b, fun hq => c.resolve_left hq⟩
theorem wtN_big : ∀ (f m k y : Nat), 1 ≤ m → 1 ≤ k → y < k → wtN f m k y = 0
  | 0, _, _, _, _, _, _ => rfl
  | f + 1, m, k, y, hm, hk, h => by
    have h1 : k * 1 ≤ k * m := Nat.mul_le_mul_left k hm
    rw [wtN, if_neg (by omega), wtN_big f m (k * m) y hm (by omega) (by omega), Nat.mul_zero]
def core (m j : Nat) : Prop := 1 ≤ j ∧ j ≤ 16 ∧ j % m ≠ 0
/-- alike: what is moved between equal parts leaves these sums -/
def Alike (m : Nat) (A B : List Int) : Prop := ∀ j, core m j → Dw (wt m j) A = Dw (wt m j) B
theorem Alike.trans {m : Nat} {A B C : List Int} (h1 : Alike m A B) (h2 : Alike m B C) : Alike m A C := fun j hj => (h1 j hj).trans (h2 j hj)
theorem Alike.symm {m : Nat} {A B : List Int} (h1 : Alike m A B) : Alike m B A := fun j hj => (h1 j hj).symm
theorem wt_step {m j k : Nat} (hm : 2 ≤ m ∧ m ≤ 16) (hj : core m j) (hk : 1 ≤ k) (hkm : k * m ≤ 16) : wt m j ((k * m : Nat) : Int) = (m : Int) * wt m j k := by
  have := km_ne hk hm.1
  unfold wt
  rw [Int.toNat_natCast, Int.toNat_natCast, ((wtTab_at hm ⟨hj.1, hj.2.1⟩ ⟨hk, by omega⟩).2.1 hj.2.2).1 hkm, Int.natCast_mul]
theorem pu_alike {m : Nat} (hm : 2 ≤ m ∧ m ≤ 16) {L : List Int} (hv : vsm L = true) {k : Nat} (hk : 1 ≤ k) : Alike m (puStep m L k) L := fun j hj => pu_inv _ hv hk fun h => wt_step hm hj hk h
theorem sp_alike {m : Nat} (hm : 2 ≤ m ∧ m ≤ 16) {L : List Int} {k : Nat} (hk : 1 ≤ k) (hkm : k * m ≤ 16) : Alike m (spStep m L k) L := fun j hj => sp_inv _ (wt_step hm hj hk hkm)
/-- the number k and what is more of it -/
theorem wt_split {m k : Nat} (hm : 2 ≤ m ∧ m ≤ 16) (hk : 1 ≤ k ∧ k ≤ 16) {L : List Int} (hL : ∀ x ∈ L, 1 ≤ x ∧ x ≤ 16) : Dw (wt m k) L = eqc k L + (m : Int) * Dw (wt m (k * m)) L := by
  rw [eqc_Dw, ← Dw_mul, ← Dw_add]
  refine Dw_congr fun x hx => ?_
  have hb := hL x hx
  have := (wtTab_at (y := x.toNat) hm hk ⟨by omega, by omega⟩).1
  unfold wt
  rw [this, Int.natCast_add, Int.natCast_mul]
  by_cases e : x = (k : Int)
  · rw [if_pos e, if_pos (by omega)]; rfl
  · rw [if_neg e, if_neg (by omega)]; rfl
theorem mul_lt_uniq {m a b A B : Int} (hm : 2 ≤ m) (ha : 0 ≤ a ∧ a < m) (hb : 0 ≤ b ∧ b < m) (h : a + m * A = b + m * B) : a = b ∧ A = B := by
  have key : A = B := by
    rcases Int.lt_trichotomy A B with h1 | h1 | h1
    · have := Int.mul_le_mul_of_nonneg_left (show A + 1 ≤ B by omega) (show 0 ≤ m by omega)
      rw [Int.mul_add] at this; omega
    · exact h1
    · have := Int.mul_le_mul_of_nonneg_left (show B + 1 ≤ A by omega) (show 0 ≤ m by omega)
      rw [Int.mul_add] at this; omega
  subst key
  exact ⟨by omega, rfl⟩
theorem eqc_neg {L : List Int} (hL : ∀ x ∈ L, 1 ≤ x ∧ x ≤ 16) {v : Int} (h : ¬ (1 ≤ v ∧ v ≤ 16)) : eqc v L = 0 := eqc_out fun hx => h (hL v hx)
/-- few of each: then these sums tell all -/
theorem few_uniq {m : Nat} (hm : 2 ≤ m ∧ m ≤ 16) {P Q : List Int} (hP : vsm P = true) (hQ : vsm Q = true) (cP : ∀ k : Nat, 1 ≤ k → eqc k P < (m : Int)) (cQ : ∀ k : Nat, 1 ≤ k → eqc k Q < (m : Int)) (h : Alike m P Q) : ∀ v, eqc v P = eqc v Q := by
  have eP := vsm_each hP
  have eQ := vsm_each hQ
  have big : ∀ (L : List Int), (∀ x ∈ L, 1 ≤ x ∧ x ≤ 16) → ∀ k : Nat, 16 < k → Dw (wt m k) L = 0 := fun L hL k hk => Dw_zero fun x hx => by
    have := hL x hx
    unfold wt
    rw [wtN_big 5 m k x.toNat (by omega) (by omega) (by omega)]; rfl
  have all : ∀ n k : Nat, k ≤ n → 1 ≤ k → Dw (wt m k) P = Dw (wt m k) Q := by
    intro n
    induction n with
    | zero => intro k h1 h2; omega
    | succ n ih =>
      intro k h1 h2
      rcases Nat.lt_or_ge 16 k with h3 | h3
      · rw [big P eP k h3, big Q eQ k h3]
      · by_cases h4 : k % m = 0
        · obtain ⟨q, rfl⟩ := Nat.dvd_of_mod_eq_zero h4
          have hq : 1 ≤ q := by
            rcases Nat.eq_zero_or_pos q with e | e
            · subst e; omega
            · exact e
          have hlt := km_ne hq hm.1
          rw [Nat.mul_comm q m] at hlt
          have h5 := ih q (by omega) hq
          rw [wt_split hm ⟨hq, by omega⟩ eP, wt_split hm ⟨hq, by omega⟩ eQ] at h5
          have h6 := (mul_lt_uniq (by omega) ⟨(eqc_bd _ _).1, cP q hq⟩ ⟨(eqc_bd _ _).1, cQ q hq⟩ h5).2
          rw [Nat.mul_comm m q]; exact h6
        · exact h k ⟨h2, h3, h4⟩
  intro v
  by_cases hv : 1 ≤ v ∧ v ≤ 16
  · obtain ⟨k, rfl⟩ := Int.eq_ofNat_of_zero_le (show 0 ≤ v by omega)
    have h5 := all 16 k (by omega) (by omega)
    rw [wt_split hm ⟨by omega, by omega⟩ eP, wt_split hm ⟨by omega, by omega⟩ eQ] at h5
    exact (mul_lt_uniq (by omega) ⟨(eqc_bd _ _).1, cP k (by omega)⟩ ⟨(eqc_bd _ _).1, cQ k (by omega)⟩ h5).1
  · rw [eqc_neg eP hv, eqc_neg eQ hv]
/-- none that m divides: then these sums are the counts -/
theorem nod_wt {m j : Nat} (hm : 2 ≤ m ∧ m ≤ 16) (hj : core m j) {L : List Int} (hL : ∀ x ∈ L, 1 ≤ x ∧ x ≤ 16) (hn : ∀ x ∈ L, x % (m : Int) ≠ 0) : Dw (wt m j) L = eqc j L := by
  rw [eqc_Dw]
  refine Dw_congr fun x hx => ?_
  have hb := hL x hx
  have hx0 := hn x hx
  obtain ⟨y, rfl⟩ := Int.eq_ofNat_of_zero_le (show 0 ≤ x by omega)
  have hy0 : y % m ≠ 0 := fun e => hx0 (by rw [← Int.natCast_emod, e]; rfl)
  have := ((wtTab_at (y := y) hm ⟨hj.1, hj.2.1⟩ ⟨by omega, by omega⟩).2.1 hj.2.2).2.2 hy0
  unfold wt
  rw [Int.toNat_natCast, this]
  by_cases e : y = j
  · rw [if_pos e, if_pos (by omega)]; rfl
  · rw [if_neg e, if_neg (by omega)]; rfl
theorem nod_uniq {m : Nat} (hm : 2 ≤ m ∧ m ≤ 16) {P Q : List Int} (eP : ∀ x ∈ P, 1 ≤ x ∧ x ≤ 16) (eQ : ∀ x ∈ Q, 1 ≤ x ∧ x ≤ 16) (nP : ∀ x ∈ P, x % (m : Int) ≠ 0) (nQ : ∀ x ∈ Q, x % (m : Int) ≠ 0) (h : Alike m P Q) : ∀ v, eqc v P = eqc v Q := by
  intro v
  by_cases hv : (1 ≤ v ∧ v ≤ 16) ∧ v % (m : Int) ≠ 0
  · obtain ⟨k, rfl⟩ := Int.eq_ofNat_of_zero_le (show 0 ≤ v by omega)
    have hk : core m k := ⟨by omega, by omega, fun e => hv.2 (by rw [← Int.natCast_emod, e]; rfl)⟩
    rw [← nod_wt hm hk eP nP, ← nod_wt hm hk eQ nQ]; exact h k hk
  · rw [eqc_out fun hx => hv ⟨eP v hx, nP v hx⟩, eqc_out fun hx => hv ⟨eQ v hx, nQ v hx⟩]
/-- a list taken apart whole -/
def flat (m : Nat) (P : List Int) : List Int := P.flatMap (soL m)
theorem Dw_soL {m j : Nat} (hm : 2 ≤ m ∧ m ≤ 16) (hj : core m j) {x : Int} (hx : 1 ≤ x ∧ x ≤ 16) : Dw (wt m j) (soL m x) = wt m j x := by
  obtain ⟨y, rfl⟩ := Int.eq_ofNat_of_zero_le (show 0 ≤ x by omega)
  obtain ⟨-, h1, h2, h3, h4⟩ := wtTab_at (y := y) hm ⟨hj.1, hj.2.1⟩ ⟨by omega, by omega⟩
  have hle : (soG m 5 y 1).1 ≤ 16 := by
    rcases Nat.eq_zero_or_pos (soG m 5 y 1).2 with e | e
    · rw [e, Nat.mul_zero] at h4; omega
    · have := Nat.le_mul_of_pos_right (soG m 5 y 1).1 e; omega
  have h5 := ((wtTab_at (y := (soG m 5 y 1).1) hm ⟨hj.1, hj.2.1⟩ ⟨h2, hle⟩).2.1 hj.2.2).2.2 h3
  unfold soL
  rw [Dw_rep, Int.toNat_natCast]
  unfold wt
  rw [Int.toNat_natCast, Int.toNat_natCast, h5, (h1 hj.2.2).2.1, Int.natCast_mul]
theorem soL_facts {m : Nat} (hm : 2 ≤ m ∧ m ≤ 16) {x : Int} (hx : 1 ≤ x ∧ x ≤ 16) : sumL (soL m x) = x ∧ ∀ y ∈ soL m x, 1 ≤ y ∧ y % (m : Int) ≠ 0 := by
  obtain ⟨y, rfl⟩ := Int.eq_ofNat_of_zero_le (show 0 ≤ x by omega)
  obtain ⟨-, -, h2, h3, h4⟩ := wtTab_at (k := 1) (y := y) hm ⟨by omega, by omega⟩ ⟨by omega, by omega⟩
  unfold soL
  rw [Int.toNat_natCast]
  refine ⟨?_, fun z hz => ?_⟩
  · rw [sum_Dw, Dw_rep, ← Int.natCast_mul, Nat.mul_comm, h4]
  · rw [(List.mem_replicate.1 hz).2]
    exact ⟨by omega, fun e => h3 (by rw [← Int.natCast_emod] at e; omega)⟩
theorem flat_facts {m : Nat} (hm : 2 ≤ m ∧ m ≤ 16) : ∀ {P : List Int}, (∀ x ∈ P, 1 ≤ x ∧ x ≤ 16) → sumL (flat m P) = sumL P ∧ (∀ y ∈ flat m P, 1 ≤ y ∧ y % (m : Int) ≠ 0) ∧ ∀ j, core m j → Dw (wt m j) (flat m P) = Dw (wt m j) P
  | [], _ => ⟨rfl, fun y hy => by simp [flat] at hy, fun _ _ => rfl⟩
  | x :: r, h => by
    obtain ⟨h1, h2, h3⟩ := flat_facts hm (P := r) fun y hy => h y (by simp [hy])
    have hx := h x (by simp)
    obtain ⟨h4, h5⟩ := soL_facts hm hx
    have e : flat m (x :: r) = soL m x ++ flat m r := by simp [flat]
    rw [e]
    refine ⟨?_, fun y hy => ?_, fun j hj => ?_⟩
    · rw [sum_Dw, Dw_append, ← sum_Dw, ← sum_Dw, h4, h1]; rfl
    · rcases List.mem_append.1 hy with hy | hy
      · exact h5 y hy
      · exact h2 y hy
    · rw [Dw_append, Dw_soL hm hj hx, h3 j hj]; rfl
theorem mrg_alike (m : Nat) (L : List Int) : Alike m (mrg L) L := fun _ _ => Dw_of_eqc (fun k => mrg_eqc L k) _
theorem mrg_uniq {A B : List Int} (h : ∀ v, eqc v A = eqc v B) : mrg A = mrg B := mono_uniq (mrg_mono A) (mrg_mono B) (fun k => by rw [mrg_eqc, mrg_eqc]; exact h k) (by rw [mrg_len, mrg_len]; exact eqc_len h)
theorem vsm_flat {m : Nat} (hm : 2 ≤ m ∧ m ≤ 16) {P : List Int} (hv : vsm P = true) : vsm (flat m P) = true :=
  vsm_iff.2 ⟨fun y hy => ((flat_facts hm (vsm_each hv)).2.1 y hy).1, by rw [(flat_facts hm (vsm_each hv)).1]; exact (vsm_iff.1 hv).2⟩
theorem vsm_mrg {L : List Int} (hv : vsm L = true) : vsm (mrg L) = true := vsm_of_valid (mrg_ok hv)
/-- steps one after another -/
def goN (st : List Int → Nat → List Int) (L : List Int) : Nat → List Int
  | 0 => L
  | i + 1 => st (goN st L i) (i + 1)
theorem goN_fold (st : List Int → Nat → List Int) (L : List Int) (n : Nat) : (List.range n).foldl (fun out i => st out (i + 1)) L = goN st L n := by
  induction n with
  | zero => rfl
  | succ n ih => rw [List.range_succ, List.foldl_append, ih]; rfl
theorem pu_go {m : Nat} (hm : 2 ≤ m ∧ m ≤ 16) {L : List Int} (hv : vsm L = true) (n : Nat) : vsm (goN (puStep m) L n) = true ∧ Alike m (goN (puStep m) L n) L ∧ sumL (goN (puStep m) L n) = sumL L ∧ ∀ k : Nat, 1 ≤ k → k ≤ n → eqc k (goN (puStep m) L n) < (m : Int) := by
  induction n with
  | zero => exact ⟨hv, fun _ _ => rfl, rfl, fun k h1 h2 => by omega⟩
  | succ n ih =>
    obtain ⟨h1, h2, h3, h4⟩ := ih
    refine ⟨pu_vsm hm.1 h1 (by omega), (pu_alike hm h1 (by omega)).trans h2, ?_, fun k h5 h6 => ?_⟩
    · show sumL (puStep m _ (n + 1)) = _
      rw [sum_Dw, pu_inv _ h1 (by omega) (fun _ => by rw [Int.natCast_mul, Int.mul_comm]), ← sum_Dw, h3]
    · show eqc k (puStep m _ (n + 1)) < _
      have hkm := km_ne (k := n + 1) (by omega) hm.1
      rw [pu_eqc hm.1 _ (by omega)]
      by_cases e : k = n + 1
      · rw [if_pos e]
        have := Nat.mod_lt ((goN (puStep m) L n).countP fun x => x == ((n + 1 : Nat) : Int)) (show 0 < m by omega)
        omega
      · rw [if_neg e, if_neg (by omega)]; exact h4 k h5 (by omega)
theorem puF_go (m : Nat) (P : List Int) : puF m P = mrg (goN (puStep m) P (sumL P).toNat) := by
  unfold puF
  rw [goN_fold]
theorem pu_few {m : Nat} (hm : 2 ≤ m ∧ m ≤ 16) {P : List Int} (hv : vsm P = true) : ∀ k : Nat, 1 ≤ k → eqc k (goN (puStep m) P (sumL P).toNat) < (m : Int) := by
  intro k hk
  obtain ⟨h1, -, h3, h4⟩ := pu_go hm hv (sumL P).toNat
  rcases Nat.lt_or_ge (sumL P).toNat k with h | h
  · have h5 := eqc_mul_le (vsm_iff.1 h1).1 (k : Int)
    rw [h3] at h5
    have h6 := eqc_bd (k : Int) (goN (puStep m) P (sumL P).toNat)
    rcases Int.lt_or_le (eqc (k : Int) (goN (puStep m) P (sumL P).toNat)) 1 with h7 | h7
    · omega
    · have := Int.mul_le_mul_of_nonneg_right h7 (show (0 : Int) ≤ (k : Int) by omega)
      have := (vsm_bd hv).1
      omega
  · exact h4 k hk h
theorem puF_eqc (m : Nat) (P : List Int) (v : Int) : eqc v (puF m P) = eqc v (goN (puStep m) P (sumL P).toNat) := by rw [puF_go, mrg_eqc]
theorem puF_valid {m : Nat} (hm : 2 ≤ m ∧ m ≤ 16) {P : List Int} (hv : vsm P = true) : valid (puF m P) = true := by rw [puF_go]; exact mrg_ok (pu_go hm hv _).1
theorem puF_sum {m : Nat} (hm : 2 ≤ m ∧ m ≤ 16) {P : List Int} (hv : vsm P = true) : sumL (puF m P) = sumL P := by rw [puF_go, mrg_sum]; exact (pu_go hm hv _).2.2.1
theorem puF_few {m : Nat} (hm : 2 ≤ m ∧ m ≤ 16) {P : List Int} (hv : vsm P = true) (k : Nat) (hk : 1 ≤ k) : eqc k (puF m P) < (m : Int) := by rw [puF_eqc]; exact pu_few hm hv k hk
theorem puF_alike {m : Nat} (hm : 2 ≤ m ∧ m ≤ 16) {P : List Int} (hv : vsm P = true) : Alike m (puF m P) P := by rw [puF_go]; exact (mrg_alike m _).trans (pu_go hm hv _).2.1
theorem soF_flat (m : Nat) (P : List Int) : soF m P = mrg (flat m P) := rfl
theorem soF_valid {m : Nat} (hm : 2 ≤ m ∧ m ≤ 16) {P : List Int} (hv : vsm P = true) : valid (soF m P) = true := mrg_ok (vsm_flat hm hv)
theorem soF_sum {m : Nat} (hm : 2 ≤ m ∧ m ≤ 16) {P : List Int} (hv : vsm P = true) : sumL (soF m P) = sumL P := by rw [soF_flat, mrg_sum]; exact (flat_facts hm (vsm_each hv)).1
theorem soF_nod {m : Nat} (hm : 2 ≤ m ∧ m ≤ 16) {P : List Int} (hv : vsm P = true) : ∀ x ∈ soF m P, x % (m : Int) ≠ 0 := fun x hx => ((flat_facts hm (vsm_each hv)).2.1 x (mrg_mem hx)).2
theorem soF_alike {m : Nat} (hm : 2 ≤ m ∧ m ≤ 16) {P : List Int} (hv : vsm P = true) : Alike m (soF m P) P := (mrg_alike m _).trans fun j hj => (flat_facts hm (vsm_each hv)).2.2 j hj
/-- what stands still after putting together is what the model puts together -/
theorem pu_end {m : Nat} (hm : 2 ≤ m ∧ m ≤ 16) {P L : List Int} (hP : vsm P = true) (hL : vsm L = true) (ha : Alike m L P) (hs : ∀ k, 1 ≤ k → k * m ≤ 16 → eqc k L < (m : Int)) : mrg L = puF m P := by
  rw [puF_go]
  refine mrg_uniq (few_uniq hm hL (pu_go hm hP _).1 (fun k hk => ?_) (pu_few hm hP) (ha.trans (pu_go hm hP _).2.1.symm))
  rcases Nat.lt_or_ge 16 (k * m) with h | h
  · rw [← cP_eqc]; have := cK_lt hL hk h; omega
  · exact hs k hk h
theorem sp_end {m : Nat} (hm : 2 ≤ m ∧ m ≤ 16) {P L : List Int} (hP : vsm P = true) (hL : vsm L = true) (ha : Alike m L P) (hs : ∀ k, 1 ≤ k → k * m ≤ 16 → eqc ((k * m : Nat) : Int) L = 0) : mrg L = soF m P := by
  refine mrg_uniq (nod_uniq hm (vsm_each hL) (vsm_each (vsm_flat hm hP)) (fun x hx e => ?_) (fun x hx => ((flat_facts hm (vsm_each hP)).2.1 x hx).2) (ha.trans fun j hj => ((flat_facts hm (vsm_each hP)).2.2 j hj).symm))
  have hb := vsm_each hL x hx
  obtain ⟨y, rfl⟩ := Int.eq_ofNat_of_zero_le (show 0 ≤ x by omega)
  have e2 : y % m = 0 := by rw [← Int.natCast_emod] at e; omega
  obtain ⟨q, rfl⟩ := Nat.dvd_of_mod_eq_zero e2
  have hq : 1 ≤ q := by
    rcases Nat.eq_zero_or_pos q with e | e
    · subst e; simp at hb
    · exact e
  have h1 := hs q hq (by rw [Nat.mul_comm]; omega)
  have h2 := eqc_pos hx
  rw [Nat.mul_comm q m] at h1
  omega
theorem puF_of_few {m : Nat} (hm : 2 ≤ m ∧ m ≤ 16) {P : List Int} (hP : valid P = true) (hf : ∀ k : Nat, 1 ≤ k → eqc k P < (m : Int)) {Q : List Int} (hQ : vsm Q = true) (ha : Alike m Q P) : puF m Q = P := by
  have := pu_end hm (P := Q) hQ (vsm_of_valid hP) ha.symm (fun k hk _ => hf k hk)
  rw [mrg_of_mono (mono_of_valid hP)] at this
  exact this.symm
/-- taken apart, put together -/
theorem puF_soF {m : Nat} (hm : 2 ≤ m ∧ m ≤ 16) {P : List Int} (hP : valid P = true) (hf : ∀ k : Nat, 1 ≤ k → eqc k P < (m : Int)) : puF m (soF m P) = P :=
  puF_of_few hm hP hf (vsm_of_valid (soF_valid hm (vsm_of_valid hP))) (soF_alike hm (vsm_of_valid hP))
theorem soF_puF {m : Nat} (hm : 2 ≤ m ∧ m ≤ 16) {P : List Int} (hP : valid P = true) (hn : ∀ x ∈ P, x % (m : Int) ≠ 0) : soF m (puF m P) = P := by
  have hv := vsm_of_valid hP
  have hpv := vsm_of_valid (puF_valid hm hv)
  have h : mrg (flat m (puF m P)) = mrg P := mrg_uniq (nod_uniq hm (vsm_each (vsm_flat hm hpv)) (vsm_each hv) (fun x hx => ((flat_facts hm (vsm_each hpv)).2.1 x hx).2) hn ((show Alike m _ _ from fun j hj => (flat_facts hm (vsm_each hpv)).2.2 j hj).trans (puF_alike hm hv)))
  rw [mrg_of_mono (mono_of_valid hP)] at h
  exact h
/-- what the program's passes rest on: a step of lists beside a step of tallies -/
structure Mv (m : Nat) (f : Int → Int → Int × Int) (st : List Int → Nat → List Int) (mu : List Int → Nat) (still : List Int → Nat → Prop) : Prop where
  step : ∀ L k, vsm L = true → 1 ≤ k → k * m ≤ 16 → vsm (st L k) = true ∧ tlyL (st L k) = pstep m f (tlyL L) k ∧ Alike m (st L k) L ∧ (mu (st L k) < mu L ∨ (still L k ∧ ∀ v, eqc v (st L k) = eqc v L))
  mu_eq : ∀ A B, (∀ v, eqc v A = eqc v B) → mu A = mu B
  still_eq : ∀ A B k, (∀ v, eqc v A = eqc v B) → still A k → still B k
theorem Mv.go {m : Nat} {f : Int → Int → Int × Int} {st : List Int → Nat → List Int} {mu : List Int → Nat} {still : List Int → Nat → Prop} (h : Mv m f st mu still) {L : List Int} (hv : vsm L = true) : ∀ i, i * m ≤ 16 →
    vsm (goN st L i) = true ∧ Alike m (goN st L i) L ∧ (mu (goN st L i) < mu L ∨ ((∀ k, 1 ≤ k → k ≤ i → still L k) ∧ ∀ v, eqc v (goN st L i) = eqc v L))
  | 0, _ => ⟨hv, fun _ _ => rfl, .inr ⟨fun k h1 h2 => by omega, fun _ => rfl⟩⟩
  | i + 1, hi => by
    have hle : i * m ≤ (i + 1) * m := Nat.mul_le_mul_right m (by omega)
    obtain ⟨h1, h2, h3⟩ := h.go hv i (by omega)
    obtain ⟨h4, -, h5, h6⟩ := h.step _ (i + 1) h1 (by omega) hi
    refine ⟨h4, h5.trans h2, ?_⟩
    rcases h3 with h3 | ⟨h3, h3e⟩
    · left
      rcases h6 with h6 | ⟨-, h6e⟩
      · exact Nat.lt_trans h6 h3
      · rw [show mu (goN st L (i + 1)) = mu (goN st L i) from h.mu_eq _ _ h6e]; exact h3
    · rcases h6 with h6 | ⟨h6, h6e⟩
      · left; rw [← h.mu_eq _ _ h3e]; exact h6
      · right
        refine ⟨fun k h7 h8 => ?_, fun v => (h6e v).trans (h3e v)⟩
        by_cases e : k = i + 1
        · subst e; exact h.still_eq _ _ _ h3e h6
        · exact h3 k h7 (by omega)
theorem tly_eqc {A B : List Int} (hA : vsm A = true) (hB : vsm B = true) (h : tlyL A = tlyL B) : ∀ v, eqc v A = eqc v B := by
  intro v
  by_cases hv : 1 ≤ v ∧ v ≤ 16
  · obtain ⟨k, rfl⟩ := Int.eq_ofNat_of_zero_le (show 0 ≤ v by omega)
    rw [← tlyL_at A (show k < 17 by omega), ← tlyL_at B (show k < 17 by omega)]
    simp only [h]
  · rw [eqc_neg (vsm_each hA) hv, eqc_neg (vsm_each hB) hv]
theorem eqc_tly {A B : List Int} (h : ∀ v, eqc v A = eqc v B) : tlyL A = tlyL B := by unfold tlyL; simp only [h]
theorem mv_merge {m : Nat} (hm : 2 ≤ m ∧ m ≤ 16) : Mv m (fM m) (puStep m) (fun L => L.length) (fun L k => eqc k L < (m : Int)) where
  step L k hv hk hkm := ⟨pu_vsm hm.1 hv hk, pu_tly hm.1 L hk hkm, pu_alike hm hv hk, pu_len hm.1 L hk⟩
  mu_eq A B h := eqc_len h
  still_eq A B k h hs := by rw [← h]; exact hs
theorem mv_split {m : Nat} (hm : 2 ≤ m ∧ m ≤ 16) : Mv m (fS m) (spStep m) (fun L => 16 - L.length) (fun L k => eqc ((k * m : Nat) : Int) L = 0) where
  step L k hv hk hkm := by
    refine ⟨sp_vsm hv hk, sp_tly hm.1 L hk hkm, sp_alike hm hk hkm, ?_⟩
    rcases sp_len hm.1 L hk with h | h
    · left; have := (vsm_bd (sp_vsm (m := m) hv hk)).2.2.2; omega
    · exact .inr h
  mu_eq A B h := by have := eqc_len h; omega
  still_eq A B k h hs := by rw [← h]; exact hs
end Go.Proofs.Ythafbdpeignccaa
namespace Go.Proofs.Ythafbdpeignccaa
open Go.RowKit
theorem wpList_load_row_g {P : Program} {ops : Array Oper} {rest : List Oper} {o : Oper} {a : Act} {w : World} {Q : Exit → Act → World → Prop} (hgd : Region.wanted o (yielded ops a.tmps) = true) (ty : TypeId) (x : Operand) (ho : o.op = .load ty x)
    (g : Nat) (hx : a.eval x = .pointer (some ⟨g, 0, none⟩)) (t : TypeId) (cs : Array Value) (fr : Nat × Nat) (d : TypeDesc) (hg : w.heap[g]? = some (.cells cs t fr))
    (hu : P.underlying ty = some d) (hd : (match d with | .struct _ | .array _ _ => true | _ => false) = true) (hi : (P.info? ty).map (·.size) = some cs.size)
    (h : wpList P ops Q rest (a.put o.dst (.agg cs)) w) : wpList P ops Q (o :: rest) a w :=
  wpList_step fun K hK => by
    rw [if_pos hgd]
    exact wp_load_row ty x ho g hx t cs fr d hg hu hd hi (hK _ _ h)
end Go.Proofs.Ythafbdpeignccaa
