/-
  Walks: CountParts, AtMostParts, JustParts of the model and of the program. Walks: places, of the program and of the model. A cell behind draws. Lists of lists that can be read from a bound on up: kept by whatever leaves the blocks between two bounds alone. Walks of the model: parts of one sum sorted.
-/
import Derived.Test.YtmojonpjgaidgaaZchain1
import Derived.Test.YtmojonpjgaidgaaZchain2
import Derived.Test.YtmojonpjgaidgaaZchain3
import Derived.Test.YtmojonpjgaidgaaZchain4
import Derived.Test.YtmojonpjgaidgaaZchain5
import Derived.Test.YtmojonpjgaidgaaZchain6
import Derived.Test.YtmojonpjgaidgaaZchain7
import Derived.Test.YtmojonpjgaidgaaZchain8
namespace Go.Proofs.Ytmojonpjgaidgaa
open Go.RowKit NP
set_option maxRecDepth 8000
set_option linter.unusedVariables false

theorem cpF_in {n : Int} (h : 0 ≤ n ∧ n ≤ 40) : cpF n = ctZ n n := by unfold cpF; rw [if_pos h]
theorem cpF_out {n : Int} (h : ¬ (0 ≤ n ∧ n ≤ 40)) : cpF n = -1 := by unfold cpF; rw [if_neg h]
theorem amF_in {n k : Int} (h : 0 ≤ n ∧ n ≤ 40) (h2 : 0 ≤ k ∧ k ≤ 40) : amF n k = ctZ n k := by unfold amF; rw [if_pos ⟨h, h2⟩]
theorem amF_out {n k : Int} (h : ¬ ((0 ≤ n ∧ n ≤ 40) ∧ (0 ≤ k ∧ k ≤ 40))) : amF n k = -1 := by unfold amF; rw [if_neg h]
theorem jpF_in {n k : Int} (h : 0 ≤ n ∧ n ≤ 40) (h2 : 0 ≤ k ∧ k ≤ 40) : jpF n k = ctZ (n - k) k := by unfold jpF; rw [if_pos ⟨h, h2⟩]
theorem jpF_out {n k : Int} (h : ¬ ((0 ≤ n ∧ n ≤ 40) ∧ (0 ≤ k ∧ k ≤ 40))) : jpF n k = -1 := by unfold jpF; rw [if_neg h]






end Go.Proofs.Ytmojonpjgaidgaa
namespace Go.Proofs.Ytmojonpjgaidgaa
open Go.RowKit NP
set_option maxRecDepth 8000
set_option linter.unusedVariables false


/-- the greatest part that may come at place i -/
def capAt (L : List Int) (i : Nat) : Int := (L.take i).getLastD (sumL L)
def leftAt (L : List Int) (i : Nat) : Int := sumL L - sumL (L.take i)
theorem capAt_zero (L : List Int) : capAt L 0 = sumL L := rfl
theorem capAt_succ {L : List Int} {i : Nat} (h : i < L.length) : capAt L (i + 1) = L[i] := by
  unfold capAt
  rw [List.take_succ_eq_append_getElem h, List.getLastD_eq_getLast?, List.getLast?_append]; simp
theorem leftAt_zero (L : List Int) : leftAt L 0 = sumL L := by simp [leftAt, sumL]
theorem leftAt_succ {L : List Int} {i : Nat} (h : i < L.length) : leftAt L (i + 1) = leftAt L i - L[i] := by
  unfold leftAt; rw [sumL_take_succ L i h]; omega
def plcAt (L : List Int) (i : Nat) : Int := plc (sumL L) (sumL L) (L.take i)
theorem plcAt_succ {L : List Int} {i : Nat} (h : i < L.length) : plcAt L (i + 1) = plcAt L i + (ctZ (leftAt L i) (capAt L i) - ctZ (leftAt L i) L[i]) := by
  unfold plcAt leftAt capAt
  rw [List.take_succ_eq_append_getElem h, plc_append]
theorem at_bd {L : List Int} (hv : valid L = true) {i : Nat} (h : i < L.length) : 1 ≤ L[i] ∧ L[i] ≤ leftAt L i ∧ L[i] ≤ capAt L i ∧ leftAt L i ≤ 16 ∧ capAt L i ≤ 16 := by
  have hb := valid_bd hv
  have hp := preS_of_valid hv i h h
  have h1 : sumL (L.take (i + 1)) ≤ sumL L := by
    have e : sumL L = sumL (L.take (i + 1)) + sumL (L.drop (i + 1)) := by rw [← sumL_append, List.take_append_drop]
    have hn : 0 ≤ sumL (L.drop (i + 1)) := by
      have := valid_nonneg hv
      have hh : ∀ (M : List Int), (∀ x ∈ M, 0 ≤ x) → 0 ≤ sumL M := by
        intro M
        induction M with
        | nil => intro _; exact Int.le_refl _
        | cons x r ih =>
          intro h
          have := ih fun y hy => h y (by simp [hy])
          have := h x (by simp)
          rw [sumL]; omega
      exact hh _ fun x hx => this x (List.mem_of_mem_drop hx)
    omega
  have h2 := leftAt_succ h
  have h3 : 0 ≤ sumL (L.take i) := (valid_bd (valid_take hv i)).1
  rcases Nat.eq_zero_or_pos i with h0 | h0
  · subst h0
    have e1 := capAt_zero L
    have e2 := leftAt_zero L
    unfold leftAt at *
    omega
  · have e1 : capAt L i = L[i - 1]'(by omega) := by
      have := capAt_succ (L := L) (i := i - 1) (by omega)
      rwa [show i - 1 + 1 = i by omega] at this
    have h4 := (preS_of_valid hv (i - 1) (by omega) (by omega))
    have h5 := hp.2.2 h0
    unfold leftAt at *
    omega
theorem plcAt_bd {L : List Int} (hv : valid L = true) : ∀ i, i ≤ L.length → -1099511627776 * (i : Int) ≤ plcAt L i ∧ plcAt L i ≤ 1099511627776 * i := by
  intro i
  induction i with
  | zero => intro _; simp [plcAt, plc]
  | succ i ih =>
    intro hi
    have h1 := ih (by omega)
    have h2 := at_bd hv (i := i) (by omega)
    have h3 := ctZ_bd (leftAt L i) (capAt L i) (by omega)
    have h4 := ctZ_bd (leftAt L i) L[i] (by omega)
    rw [plcAt_succ (by omega)]
    omega
theorem plcAt_all (L : List Int) : plcAt L L.length = plc (sumL L) (sumL L) L := by unfold plcAt; rw [List.take_of_length_le (Nat.le_refl _)]



theorem rank_any (a : Option Addr) (c B : Nat) (L : List Int) (w : World) (h : Rd w B a (ints L)) (hv : valid L = true) :
    Calls Try.prog 84 #[.slice a L.length c] w fun e w' => e = .returned (.int .i64 (plc (sumL L) (sumL L) L)) ∧ ∃ n, w' = w.drewN n := by
  have HV := Lib.hid hv
  have hl16 := (valid_bd hv).2.2.2
  have HF := Lib.hid (valid_fits hv)
  clear hv
  go_enter Try.func84, Try.ntmps84
  go_wp2_with (go_at_call 33; refine (sum_any _ _ B L _ h HF.out (by omega)).mono ?_; rintro e w1 ⟨rfl, rfl⟩)
  go_loopw [3, 4, 5, 6] (fun vp vl vm vi wr => ∃ i : Nat, i ≤ L.length ∧ vi = .int .i64 i ∧ vp = .int .i64 (plcAt L i) ∧ vl = .int .i64 (leftAt L i) ∧ vm = .int .i64 (capAt L i) ∧ Dr w wr) (fun _ _ _ vi _ => L.length - (intOf vi).toNat)
  case atStart => exact ⟨0, Nat.zero_le _, rfl, rfl, by rw [leftAt_zero], rfl, Dr.refl _⟩
  case round =>
    obtain ⟨i, hi, rfl, rfl, rfl, rfl, hdr⟩ := hrel
    have hpb := plcAt_bd HV.out i hi
    by_cases hlt : i < L.length
    · have hlt' : (i : Int) < (L.length : Int) := by omega
      obtain ⟨b, o, rfl, hbB, hc⟩ := (h.dr hdr).at_ hlt
      obtain ⟨hx1, hx2, hx3, hx4, hx5⟩ := at_bd HV.out hlt
      have HS1 := Lib.hid (plcAt_succ hlt)
      have HS2 := Lib.hid (leftAt_succ hlt)
      have HS3 := Lib.hid (capAt_succ hlt)
      have hcb1 := ctZ_bd (leftAt L i) (capAt L i) (by omega)
      have hcb2 := ctZ_bd (leftAt L i) L[i] (by omega)
      generalize L[i] = x at *
      generalize leftAt L i = l at *
      generalize capAt L i = m at *
      generalize plcAt L i = p at *
      have e1 : IntKind.i64.wrap (p + ctZ l m) = p + ctZ l m := IntWalk.i64_in _ (by omega)
      have e2 : IntKind.i64.wrap (p + ctZ l m - ctZ l x) = p + ctZ l m - ctZ l x := IntWalk.i64_in _ (by omega)
      go_wp2_with fail
      go_quiet ((go_at_call 94; exact Calls.quiet_of_same ((countTo_at _ _ _ (by omega) (by omega) (by omega) (by omega)).mono fun e w' h => ⟨h.1, h.2.symm⟩)))
      go_wp2
      go_roundw
      case rel =>
        refine ⟨i + 1, by omega, by go_num, ?_, by rw [HS2.out], by rw [HS3.out], hdr.drewN _⟩
        rw [HS1.out]
        congr 1; omega
      case measure => simp [intOf]; omega
    · obtain rfl : i = L.length := by omega
      rw [plcAt_all]
      go_wp2
      go_ret
      exact ⟨rfl, hdr⟩

end Go.Proofs.Ytmojonpjgaidgaa
namespace Go.Proofs.Ytmojonpjgaidgaa
open Go.RowKit
theorem drCell {w w' : World} {p : Addr} {v : Value} (h : Dr w w') (hc : w.cell? p = some v) : w'.cell? p = some v := by
  rw [(h.below w.heap.size).cell (p := p) (World.block_lt_of_cell? w p hc)]; exact hc
end Go.Proofs.Ytmojonpjgaidgaa
namespace Go.Proofs.Ytmojonpjgaidgaa
open Go.RowKit
set_option linter.unusedVariables false
def LoA (lo : Nat) (a : Option Addr) (vs : List Value) : Prop := vs ≠ [] → ∀ p, a = some p → lo ≤ p.block
def InnF (w : World) (lo B : Nat) (v : Value) (L : List Int) : Prop := ∃ a c, v = .slice a L.length c ∧ Rd w B a (ints L) ∧ L.length ≤ c ∧ LoA lo a (ints L)
def RdLF (w : World) (lo B : Nat) (a : Option Addr) (LL : List (List Int)) : Prop :=
  ∃ vs, Rd w B a vs ∧ LoA lo a vs ∧ vs.length = LL.length ∧ ∀ (k : Nat) v L, vs[k]? = some v → LL[k]? = some L → InnF w lo B v L
/-- the blocks from lo up to hi are what they were -/
def Same2 (lo hi : Nat) (w w' : World) : Prop := ∀ g, lo ≤ g → g < hi → w'.heap[g]? = w.heap[g]?
theorem Same2.refl (lo hi : Nat) (w : World) : Same2 lo hi w w := fun _ _ _ => rfl
theorem Same2.trans {lo hi : Nat} {w w' w'' : World} (h : Same2 lo hi w w') (h' : Same2 lo hi w' w'') : Same2 lo hi w w'' := fun g h1 h2 => (h' g h1 h2).trans (h g h1 h2)
theorem Same2.of {lo hi B : Nat} {w w' : World} (h : Below B w w') (hB : hi ≤ B) : Same2 lo hi w w' := fun g _ h2 => h.block g (by omega)
theorem Same2.grown {lo hi : Nat} {w w' : World} {row : Option Nat} (hg : w.grownBy w' row) (hs : hi ≤ w.heap.size) (h : ∀ g, row = some g → g < lo ∨ hi ≤ g) : Same2 lo hi w w' := fun g h1 h2 =>
  hg.block g (by omega) (fun e => by have := h g e.symm; omega)
theorem Rd.same2 {w w' : World} {lo B : Nat} {a : Option Addr} {vs : List Value} (h : Rd w B a vs) (hl : LoA lo a vs) (hs : Same2 lo B w w') : Rd w' B a vs := fun hne => by
  obtain ⟨b, o, rfl, hb, hc⟩ := h hne
  have hlo := hl hne _ rfl
  refine ⟨b, o, rfl, hb, fun k v hv => ?_⟩
  rw [World.cell?_of_block (w := w) (hs b hlo hb)]
  exact hc k v hv
theorem InnF.same2 {w w' : World} {lo B : Nat} {v : Value} {L : List Int} (h : InnF w lo B v L) (hs : Same2 lo B w w') : InnF w' lo B v L := by
  obtain ⟨a, c, h1, h2, h3, h4⟩ := h
  exact ⟨a, c, h1, h2.same2 h4 hs, h3, h4⟩
theorem InnF.inn {w : World} {lo B : Nat} {v : Value} {L : List Int} (h : InnF w lo B v L) : Inn w B v L := by
  obtain ⟨a, c, h1, h2, h3, h4⟩ := h
  exact ⟨a, c, h1, h2, h3⟩
theorem InnF.below {w w' : World} {lo B : Nat} {v : Value} {L : List Int} (h : InnF w lo B v L) (hb : Below B w w') : InnF w' lo B v L := h.same2 (Same2.of hb (Nat.le_refl _))
theorem InnF.more {w : World} {lo B B' : Nat} {v : Value} {L : List Int} (h : InnF w lo B v L) (hB : B ≤ B') : InnF w lo B' v L := by
  obtain ⟨a, c, h1, h2, h3, h4⟩ := h
  exact ⟨a, c, h1, h2.more hB, h3, h4⟩
theorem LoA.lower {lo lo' : Nat} {a : Option Addr} {vs : List Value} (h : LoA lo a vs) (hl : lo' ≤ lo) : LoA lo' a vs := fun hne p e => Nat.le_trans hl (h hne p e)
theorem InnF.lower {w : World} {lo lo' B : Nat} {v : Value} {L : List Int} (h : InnF w lo B v L) (hl : lo' ≤ lo) : InnF w lo' B v L := by
  obtain ⟨a, c, h1, h2, h3, h4⟩ := h
  exact ⟨a, c, h1, h2, h3, h4.lower hl⟩
theorem RdLF.rd {w : World} {lo B : Nat} {a : Option Addr} {LL : List (List Int)} (h : RdLF w lo B a LL) : RdLL w B a LL := by
  obtain ⟨vs, h1, _, h2, h3⟩ := h
  exact ⟨vs, h1, h2, fun k v L hv hL => (h3 k v L hv hL).inn⟩
theorem RdLF.same2 {w w' : World} {lo B : Nat} {a : Option Addr} {LL : List (List Int)} (h : RdLF w lo B a LL) (hs : Same2 lo B w w') : RdLF w' lo B a LL := by
  obtain ⟨vs, h1, h0, h2, h3⟩ := h
  exact ⟨vs, h1.same2 h0 hs, h0, h2, fun k v L hv hL => (h3 k v L hv hL).same2 hs⟩
theorem RdLF.below {w w' : World} {lo B : Nat} {a : Option Addr} {LL : List (List Int)} (h : RdLF w lo B a LL) (hb : Below B w w') : RdLF w' lo B a LL := h.same2 (Same2.of hb (Nat.le_refl _))
theorem RdLF.more {w : World} {lo B B' : Nat} {a : Option Addr} {LL : List (List Int)} (h : RdLF w lo B a LL) (hB : B ≤ B') : RdLF w lo B' a LL := by
  obtain ⟨vs, h1, h0, h2, h3⟩ := h
  exact ⟨vs, h1.more hB, h0, h2, fun k v L hv hL => (h3 k v L hv hL).more hB⟩
theorem RdLF.lower {w : World} {lo lo' B : Nat} {a : Option Addr} {LL : List (List Int)} (h : RdLF w lo B a LL) (hl : lo' ≤ lo) : RdLF w lo' B a LL := by
  obtain ⟨vs, h1, h0, h2, h3⟩ := h
  exact ⟨vs, h1, h0.lower hl, h2, fun k v L hv hL => (h3 k v L hv hL).lower hl⟩
theorem RdLF.nil (w : World) (lo B : Nat) : RdLF w lo B none [] := ⟨[], fun h => absurd rfl h, fun h => absurd rfl h, rfl, fun k v L hv => by simp at hv⟩
/-- the k-th list -/
theorem RdLF.at_ {w : World} {lo B : Nat} {a : Option Addr} {LL : List (List Int)} (h : RdLF w lo B a LL) {k : Nat} (hk : k < LL.length) :
    ∃ b o a' c', a = some ⟨b, o, none⟩ ∧ lo ≤ b ∧ b < B ∧ w.cell? ⟨b, o + k, none⟩ = some (.slice a' LL[k].length c') ∧ Rd w B a' (ints LL[k]) ∧ LL[k].length ≤ c' ∧ LoA lo a' (ints LL[k]) := by
  obtain ⟨vs, h1, h0, h2, h3⟩ := h
  have hkv : k < vs.length := by omega
  have hne : vs ≠ [] := by intro e; subst e; simp at hkv
  obtain ⟨b, o, rfl, hb, hc⟩ := h1 hne
  obtain ⟨a', c', e, hr, hl, h4⟩ := h3 k vs[k] LL[k] (List.getElem?_eq_getElem hkv) (List.getElem?_eq_getElem hk)
  exact ⟨b, o, a', c', rfl, h0 hne _ rfl, hb, by rw [hc k vs[k] (List.getElem?_eq_getElem hkv), e], hr, hl, h4⟩
theorem Own.loA {w : World} {lo hi : Nat} {e : TypeId} {a : Option Addr} {n c : Nat} {vs : List Value} (h : Own w lo hi e (.slice a n c) vs) : LoA lo a vs := fun hne p hp => by
  cases vs with
  | nil => exact absurd rfl hne
  | cons x r =>
    obtain ⟨g, c', e1, h2, _⟩ := h.at_ (k := 0) (by simp)
    injection e1 with e1 _ _
    rw [hp] at e1
    injection e1 with e1
    rw [e1]
    exact h2
theorem OwnLL.rdF {w : World} {lo hi : Nat} {eo e : TypeId} {a : Option Addr} {n c : Nat} {vs : List Value} {LL : List (List Int)} (h : OwnLL w lo hi eo e (.slice a n c) vs LL) : RdLF w lo hi a LL := by
  refine ⟨vs, h.outer.rd, h.outer.loA, h.len, fun k u L hu hL => ?_⟩
  have hi' := h.inner k u L hu hL
  obtain ⟨a', c', rfl⟩ := hi'.form
  refine ⟨a', c', by rw [List.length_map], hi'.rd, ?_, hi'.loA⟩
  rcases Nat.eq_zero_or_pos L.length with h0 | h0
  · omega
  · obtain ⟨g, c2, e2, hc⟩ := hi'.formN (by simpa using h0)
    injection e2 with _ _ e3
    rw [List.length_map] at hc
    omega
end Go.Proofs.Ytmojonpjgaidgaa
namespace Go.Proofs.Ytmojonpjgaidgaa
open Go.RowKit NP
set_option maxRecDepth 8000
set_option linter.unusedVariables false
set_option linter.unusedSimpArgs false
attribute [local go_sem ↓] Go.wp_at_zero Go.wp_at_succ
def insQ {α : Type} (ps : List α) (q : Nat) (p : α) : List α := ps.take q ++ [p] ++ ps.drop q
theorem insQ_len {α : Type} (ps : List α) (q : Nat) (p : α) (h : q ≤ ps.length) : (insQ ps q p).length = ps.length + 1 := by simp [insQ]; omega
theorem insQ_all {α : Type} {ps : List α} {q : Nat} {p : α} {G : α → Prop} (h : ∀ x ∈ ps, G x) (hp : G p) : ∀ x ∈ insQ ps q p, G x := by
  intro x hx
  simp only [insQ, List.mem_append, List.mem_singleton] at hx
  rcases hx with (hx | rfl) | hx
  · exact h x (List.mem_of_mem_take hx)
  · exact hp
  · exact h x (List.mem_of_mem_drop hx)
theorem tw_len {α : Type} (p : α → Bool) : ∀ (M : List α) (q : Nat), q ≤ M.length → (∀ r (h : r < M.length), r < q → p M[r] = true) → (q = M.length ∨ ∃ h : q < M.length, p M[q] = false) → (M.takeWhile p).length = q := by
  intro M
  induction M with
  | nil => intro q hq _ _; simp at hq; simp [hq]
  | cons x r ih =>
    intro q hq h1 h2
    cases q with
    | zero =>
      rcases h2 with h2 | ⟨_, h2⟩
      · simp at h2
      · simp only [List.getElem_cons_zero] at h2
        simp [List.takeWhile_cons, h2]
    | succ q =>
      have h0 := h1 0 (by simp) (by omega)
      simp only [List.getElem_cons_zero] at h0
      rw [List.takeWhile_cons, if_pos h0, List.length_cons]
      have := ih q (by simpa using hq) (fun j hj hjq => by have := h1 (j + 1) (by simp; omega) (by omega); simpa using this) (by
        rcases h2 with h2 | ⟨hq2, h2⟩
        · left; simp at h2; exact h2
        · right; exact ⟨by simpa using hq2, by simpa using h2⟩)
      omega
theorem insP_eq {ps : List (Value × List Int)} {L : List Int} {q : Nat} (hP : ∀ r (h : r < ps.length), r < q → lexB ps[r].2 L = true) (hq : q ≤ ps.length) (h2 : q = ps.length ∨ ∃ h : q < ps.length, lexB ps[q].2 L = false) : insP (ps.map Prod.snd) L = q := by
  unfold insP
  refine tw_len _ _ q (by simpa using hq) (fun r h hr => by have := hP r (by simpa using h) hr; simpa using this) ?_
  rcases h2 with h2 | ⟨h3, h4⟩
  · left; simpa using h2
  · right; exact ⟨by simpa using h3, by simpa using h4⟩
theorem insW_yes {v : Value} {ps : List (Value × List Int)} {L : List Int} {q : Nat} (hP : ∀ r (h : r < ps.length), r < q → lexB ps[r].2 L = true) (hq : q ≤ ps.length) (h2 : q = ps.length ∨ ∃ h : q < ps.length, lexB ps[q].2 L = false ∧ ¬ ps[q].2 = L) :
    insW (ps.map Prod.snd) L = (insQ ps q (v, L)).map Prod.snd := by
  have e := insP_eq (L := L) hP hq (h2.imp id fun ⟨h, h3, _⟩ => ⟨h, h3⟩)
  unfold insW
  rw [e, if_pos ?_]
  · simp [insQ, List.map_take, List.map_drop]
  · rcases h2 with h | ⟨h, _, h4⟩
    · left; simpa using h
    · right; simpa [List.getD_eq_getElem?_getD, h] using h4
theorem insW_no {ps : List (Value × List Int)} {L : List Int} {q : Nat} (hP : ∀ r (h : r < ps.length), r < q → lexB ps[r].2 L = true) (hq : q < ps.length) (h1 : lexB ps[q].2 L = false) (h2 : ps[q].2 = L) :
    insW (ps.map Prod.snd) L = ps.map Prod.snd := by
  have e := insP_eq (L := L) hP (Nat.le_of_lt hq) (.inr ⟨hq, h1⟩)
  unfold insW
  rw [e, if_neg ?_]
  rintro (h | h)
  · simp at h; omega
  · exact h (by simpa [List.getD_eq_getElem?_getD, hq] using h2)
def GoodP (w : World) (lo B : Nat) (n : Int) (p : Value × List Int) : Prop := InnF w lo B p.1 p.2 ∧ valid p.2 = true ∧ sumL p.2 = n
set_option maxRecDepth 100000 in
set_option maxHeartbeats 8000000 in
theorem sorted_any (a : Option Addr) (c lo B : Nat) (n : Int) (LL : List (List Int)) (w : World) (h : RdLF w lo B a LL) (hlo : lo ≤ w.heap.size) (hB : B ≤ w.heap.size) (hl : LL.length ≤ 1000) (hv : ∀ L ∈ LL, valid L = true ∧ sumL L = n) :
    Calls Try.prog 66 #[.slice a LL.length c] w fun e w' => ∃ a' c', e = .returned (.slice a' (srtF LL).length c') ∧ RdLF w' lo w'.heap.size a' (srtF LL) ∧ Below w.heap.size w w' := by
  obtain ⟨i1, hj, hy0, hy1, hy2⟩ := info_parts T_ints3
  have hmx : Try.prog.follows .mixedOrders = true := by kernel_rfl
  go_enter Try.func66, Try.ntmps66
  go_wp2
  go_loopw [3, 4] (fun v i wr => ∃ (k : Nat) (ps : List (Value × List Int)) (g cc : Nat), k ≤ LL.length ∧ i = .int .i64 (k : Int) ∧ Below w.heap.size w wr ∧ v = .slice (some ⟨g, 0, none⟩) ps.length cc ∧ ps.length ≤ cc ∧ ps.length ≤ k ∧ Hid (ps.map Prod.snd = (LL.take k).foldl insW []) ∧ Hid (∀ p ∈ ps, GoodP w lo B n p) ∧ Own wr w.heap.size wr.heap.size 22 (.slice (some ⟨g, 0, none⟩) ps.length cc) (ps.map Prod.fst)) (fun _ i _ => LL.length - (intOf i).toNat)
  case atStart => exact ⟨0, [], w.heap.size, 0, Nat.zero_le _, rfl, (Below.refl _ _).alloc (Nat.le_refl _) _, rfl, Nat.le_refl _, Nat.le_refl _, Lib.hid rfl, Lib.hid (fun p hp => by simp at hp), (Own.empty w 22).more⟩
  case round =>
    obtain ⟨k, ps, g, cc, hk, rfl, hbel, rfl, hcc, hpk, HM, HGD, hown⟩ := hrel
    by_cases hlt : k < LL.length
    · have hlt' : (k : Int) < (LL.length : Int) := by omega
      obtain ⟨b, o, ak, ck, rfl, hblo, hbB, hc00, hrk, hlk, hloa⟩ := h.at_ hlt
      have hc0 : wr.cell? ⟨b, o + k, none⟩ = some (.slice ak LL[k].length ck) := (hbel.cell (p := ⟨b, o + k, none⟩) (by show b < w.heap.size; omega)).trans hc00
      obtain ⟨hvk, hsk⟩ := hv LL[k] (List.getElem_mem hlt)
      have HGK : Hid (GoodP w lo B n (.slice ak LL[k].length ck, LL[k])) := Lib.hid ⟨⟨ak, ck, rfl, hrk, hlk, hloa⟩, hvk, hsk⟩
      have HVK := Lib.hid hvk
      have HSK := Lib.hid hsk
      have hl16k : LL[k].length ≤ 16 := (valid_bd hvk).2.2.2
      have HRK := Lib.hid ((hrk.more hB).below hbel)
      have HG1 : Hid (∀ u ∈ ps.map Prod.fst, u.oneCell' = true) := Lib.hid (fun u hu => by
        obtain ⟨p, hp, rfl⟩ := List.mem_map.1 hu
        obtain ⟨⟨a', c', he, -, -, -⟩, -, -⟩ := HGD.out p hp
        rw [he]; rfl)
      obtain ⟨r2, hr2⟩ : ∃ r, plc (sumL LL[k]) (sumL LL[k]) LL[k] = r := ⟨_, rfl⟩
      have HR2 := Lib.hid hr2
      obtain ⟨wo, rfl⟩ : ∃ wo : World, wo = wr := ⟨_, rfl⟩
      have HO := Lib.hid hown
      clear hown hc00 hrk hvk hsk hr2 hloa hblo
      go_wp2
      go_loopw [5] (fun j wr => ∃ q : Nat, q ≤ ps.length ∧ j = .int .i64 (q : Int) ∧ Dr wo wr ∧ Hid (∀ r (h : r < ps.length), r < q → lexB ps[r].2 LL[k] = true)) (fun j _ => ps.length - (intOf j).toNat)
      case atStart => exact ⟨0, Nat.zero_le _, rfl, Dr.refl _, Lib.hid fun r _ hr => by omega⟩
      case round =>
        obtain ⟨q, hq, rfl, hdr, HP⟩ := hrel
        have hcr : wr.cell? ⟨b, o + k, none⟩ = some (.slice ak LL[k].length ck) := drCell hdr hc0
        by_cases hqM : q < ps.length
        · have hqM' : (q : Int) < (ps.length : Int) := by omega
          have hown := HO.out.dr hdr
          obtain ⟨⟨aq, cq, heq, hrq0, hlq, -⟩, hvq, hsq⟩ := HGD.out ps[q] (List.getElem_mem hqM)
          have hcM : wr.cell? ⟨g, q, none⟩ = some (.slice aq ps[q].2.length cq) := by
            obtain ⟨g', e, hcM⟩ := hown.read (k := q) (by simpa using hqM)
            injection e with e; injection e with e _; subst e
            rw [hcM]; simp [heq]
          have HRQ := Lib.hid (((hrq0.more hB).below hbel).dr hdr)
          have HRK2 := Lib.hid (HRK.out.dr hdr)
          obtain ⟨r1, hr1⟩ : ∃ r, plc (sumL ps[q].2) (sumL ps[q].2) ps[q].2 = r := ⟨_, rfl⟩
          have hlex : decide (r1 < r2) = lexB ps[q].2 LL[k] := by
            have := plc_lexV hvq HVK.out (by rw [hsq, HSK.out])
            rw [hr1, HR2.out] at this
            exact this
          have hl16q : ps[q].2.length ≤ 16 := (valid_bd hvq).2.2.2
          have HR1 := Lib.hid hr1
          have HVQ := Lib.hid hvq
          clear hown hr1 hvq hsq hrq0 heq
          by_cases hx : r1 < r2
          · have hxl : Hid (lexB ps[q].2 LL[k] = true) := Lib.hid (by rw [← hlex]; exact decide_eq_true hx)
            clear hlex
            go_wp2_with fail
            refine wp_region_vals [0, 1, 2, 3, 4, 5, 6, 7, 8, 9, 10, 11, 12, 13, 14, 15, 16] [.int .i64 (q : Int), .slice (some ⟨g, 0, none⟩) ps.length cc, .int .i64 (ps.length : Int), .bool true, .bool true, .slice (some ⟨g, 0, none⟩) ps.length cc, .int .i64 (q : Int), .pointer (some ⟨g, q, none⟩), .slice aq ps[q].2.length cq, .int .i64 r1, .slice (some ⟨b, o, none⟩) LL.length c, .int .i64 (k : Int), .pointer (some ⟨b, o + k, none⟩), .slice ak LL[k].length ck, .int .i64 r2, .bool true, .bool true] (fun w' => Dr wr w') _ hmx (fun _ h => h) rfl rfl (by kernel_rfl) (by kernel_rfl) rfl ?steps ?rest
            case steps =>
              simp only [putsOfG, Act.put, List.getElem?_toArray, List.getElem?_cons_succ, List.getElem?_cons_zero, Option.bind_some, Nat.reduceAdd, List.setIfInBounds_toArray, List.set_cons_zero, List.set_cons_succ]
              refine StepsG.cons rfl rfl (fun wq hS => ?_) ?_
              · have c1 := drCell hS hcr
                have c2 := drCell hS hcM
                go_simp
              refine StepsG.cons rfl rfl (fun wq hS => ?_) ?_
              · have c1 := drCell hS hcr
                have c2 := drCell hS hcM
                go_simp
              refine StepsG.cons rfl rfl (fun wq hS => ?_) ?_
              · have c1 := drCell hS hcr
                have c2 := drCell hS hcM
                go_simp
              refine StepsG.cons rfl rfl (fun wq hS => ?_) ?_
              · have c1 := drCell hS hcr
                have c2 := drCell hS hcM
                go_simp
              refine StepsG.cons rfl rfl (fun wq hS => ?_) ?_
              · have c1 := drCell hS hcr
                have c2 := drCell hS hcM
                go_simp
              refine StepsG.cons rfl rfl (fun wq hS => ?_) ?_
              · have c1 := drCell hS hcr
                have c2 := drCell hS hcM
                go_simp
              refine StepsG.cons rfl rfl (fun wq hS => ?_) ?_
              · have c1 := drCell hS hcr
                have c2 := drCell hS hcM
                go_simp
              refine StepsG.cons rfl rfl (fun wq hS => ?_) ?_
              · have c1 := drCell hS hcr
                have c2 := drCell hS hcM
                go_simp
              refine StepsG.cons rfl rfl (fun wq hS => ?_) ?_
              · have c1 := drCell hS hcr
                have c2 := drCell hS hcM
                go_simp
              refine StepsG.cons rfl rfl (fun wq hS => ?_) ?_
              · go_simp
                go_at_call 84
                refine (rank_any _ _ _ ps[q].2 wq (HRQ.out.dr hS) HVQ.out).mono ?_
                rintro e w5 ⟨rfl, nn, rfl⟩
                rw [HR1.out]
                exact ⟨rfl, hS.drewN nn⟩
              refine StepsG.cons rfl rfl (fun wq hS => ?_) ?_
              · have c1 := drCell hS hcr
                have c2 := drCell hS hcM
                go_simp
              refine StepsG.cons rfl rfl (fun wq hS => ?_) ?_
              · have c1 := drCell hS hcr
                have c2 := drCell hS hcM
                go_simp
              refine StepsG.cons rfl rfl (fun wq hS => ?_) ?_
              · have c1 := drCell hS hcr
                have c2 := drCell hS hcM
                go_simp
              refine StepsG.cons rfl rfl (fun wq hS => ?_) ?_
              · have c1 := drCell hS hcr
                have c2 := drCell hS hcM
                go_simp
              refine StepsG.cons rfl rfl (fun wq hS => ?_) ?_
              · go_simp
                go_at_call 84
                refine (rank_any _ _ _ LL[k] wq (HRK2.out.dr hS) HVK.out).mono ?_
                rintro e w5 ⟨rfl, nn, rfl⟩
                rw [HR2.out]
                exact ⟨rfl, hS.drewN nn⟩
              refine StepsG.cons rfl rfl (fun wq hS => ?_) ?_
              · have c1 := drCell hS hcr
                have c2 := drCell hS hcM
                go_simp
              refine StepsG.cons rfl rfl (fun wq hS => ?_) ?_
              · have c1 := drCell hS hcr
                have c2 := drCell hS hcM
                go_simp
              exact StepsG.nil
            case rest =>
              intro wq hS
              simp only [putsOfG, Act.put, List.getElem?_toArray, List.getElem?_cons_succ, List.getElem?_cons_zero, Option.bind_some, Nat.reduceAdd, List.setIfInBounds_toArray, List.set_cons_zero, List.set_cons_succ]
              go_wp2_with fail
              go_roundw
              case rel =>
                exact ⟨q + 1, by omega, by go_num, hdr.trans hS, Lib.hid fun r hr hrq => by
                  rcases Nat.lt_or_ge r q with h | h
                  · exact HP.out r hr h
                  · obtain rfl : r = q := by omega
                    exact hxl.out⟩
              case measure => simp [intOf]; omega
          · have hxl : Hid (lexB ps[q].2 LL[k] = false) := Lib.hid (by rw [← hlex]; exact decide_eq_false hx)
            have hxf : decide (r1 < r2) = false := decide_eq_false hx
            clear hlex
            go_wp2_with fail
            refine wp_region_vals [0, 1, 2, 3, 4, 5, 6, 7, 8, 9, 10, 11, 12, 13, 14, 15, 16] [.int .i64 (q : Int), .slice (some ⟨g, 0, none⟩) ps.length cc, .int .i64 (ps.length : Int), .bool true, .bool true, .slice (some ⟨g, 0, none⟩) ps.length cc, .int .i64 (q : Int), .pointer (some ⟨g, q, none⟩), .slice aq ps[q].2.length cq, .int .i64 r1, .slice (some ⟨b, o, none⟩) LL.length c, .int .i64 (k : Int), .pointer (some ⟨b, o + k, none⟩), .slice ak LL[k].length ck, .int .i64 r2, .bool false, .bool false] (fun w' => Dr wr w') _ hmx (fun _ h => h) rfl rfl (by kernel_rfl) (by kernel_rfl) rfl ?steps ?rest
            case steps =>
              simp only [putsOfG, Act.put, List.getElem?_toArray, List.getElem?_cons_succ, List.getElem?_cons_zero, Option.bind_some, Nat.reduceAdd, List.setIfInBounds_toArray, List.set_cons_zero, List.set_cons_succ]
              refine StepsG.cons rfl rfl (fun wq hS => ?_) ?_
              · have c1 := drCell hS hcr
                have c2 := drCell hS hcM
                go_simp
              refine StepsG.cons rfl rfl (fun wq hS => ?_) ?_
              · have c1 := drCell hS hcr
                have c2 := drCell hS hcM
                go_simp
              refine StepsG.cons rfl rfl (fun wq hS => ?_) ?_
              · have c1 := drCell hS hcr
                have c2 := drCell hS hcM
                go_simp
              refine StepsG.cons rfl rfl (fun wq hS => ?_) ?_
              · have c1 := drCell hS hcr
                have c2 := drCell hS hcM
                go_simp
              refine StepsG.cons rfl rfl (fun wq hS => ?_) ?_
              · have c1 := drCell hS hcr
                have c2 := drCell hS hcM
                go_simp
              refine StepsG.cons rfl rfl (fun wq hS => ?_) ?_
              · have c1 := drCell hS hcr
                have c2 := drCell hS hcM
                go_simp
              refine StepsG.cons rfl rfl (fun wq hS => ?_) ?_
              · have c1 := drCell hS hcr
                have c2 := drCell hS hcM
                go_simp
              refine StepsG.cons rfl rfl (fun wq hS => ?_) ?_
              · have c1 := drCell hS hcr
                have c2 := drCell hS hcM
                go_simp
              refine StepsG.cons rfl rfl (fun wq hS => ?_) ?_
              · have c1 := drCell hS hcr
                have c2 := drCell hS hcM
                go_simp
              refine StepsG.cons rfl rfl (fun wq hS => ?_) ?_
              · go_simp
                go_at_call 84
                refine (rank_any _ _ _ ps[q].2 wq (HRQ.out.dr hS) HVQ.out).mono ?_
                rintro e w5 ⟨rfl, nn, rfl⟩
                rw [HR1.out]
                exact ⟨rfl, hS.drewN nn⟩
              refine StepsG.cons rfl rfl (fun wq hS => ?_) ?_
              · have c1 := drCell hS hcr
                have c2 := drCell hS hcM
                go_simp
              refine StepsG.cons rfl rfl (fun wq hS => ?_) ?_
              · have c1 := drCell hS hcr
                have c2 := drCell hS hcM
                go_simp
              refine StepsG.cons rfl rfl (fun wq hS => ?_) ?_
              · have c1 := drCell hS hcr
                have c2 := drCell hS hcM
                go_simp
              refine StepsG.cons rfl rfl (fun wq hS => ?_) ?_
              · have c1 := drCell hS hcr
                have c2 := drCell hS hcM
                go_simp
              refine StepsG.cons rfl rfl (fun wq hS => ?_) ?_
              · go_simp
                go_at_call 84
                refine (rank_any _ _ _ LL[k] wq (HRK2.out.dr hS) HVK.out).mono ?_
                rintro e w5 ⟨rfl, nn, rfl⟩
                rw [HR2.out]
                exact ⟨rfl, hS.drewN nn⟩
              refine StepsG.cons rfl rfl (fun wq hS => ?_) ?_
              · have c1 := drCell hS hcr
                have c2 := drCell hS hcM
                go_simp
              refine StepsG.cons rfl rfl (fun wq hS => ?_) ?_
              · have c1 := drCell hS hcr
                have c2 := drCell hS hcM
                go_simp
              exact StepsG.nil
            case rest =>
              intro wq hS
              simp only [putsOfG, Act.put, List.getElem?_toArray, List.getElem?_cons_succ, List.getElem?_cons_zero, Option.bind_some, Nat.reduceAdd, List.setIfInBounds_toArray, List.set_cons_zero, List.set_cons_succ]
              go_wp2_with fail
              obtain ⟨wd, hwd⟩ : ∃ wd, wd = wq := ⟨_, rfl⟩
              rw [← hwd]
              have hdq : Dr wo wd := hwd ▸ hdr.trans hS
              have hcrd := drCell hdq hc0
              have hcMd : wd.cell? ⟨g, q, none⟩ = some (.slice aq ps[q].2.length cq) := by rw [hwd]; exact drCell hS hcM
              have HRQ3 := Lib.hid (hwd ▸ HRQ.out.dr hS : Rd wd _ _ _)
              have HRK3 := Lib.hid (HRK.out.dr hdq)
              have HSM : Hid (decide (ps[q].2 = LL[k]) = decide (ps[q].2 = LL[k])) := Lib.hid rfl
              have heq1 : ((q : Int) == (ps.length : Int)) = false := by simp; omega
              clear hwd hS hcr hcM hx hxf
              obtain ⟨wr, rfl⟩ : ∃ wr, wr = wd := ⟨_, rfl⟩
              cases hse : decide (ps[q].2 = LL[k]) with
              | true =>
                have HSE := Lib.hid hse
                clear hse
                refine wp_region_vals [0, 1, 2, 3, 4, 5, 6, 7, 8, 9, 10, 11, 12, 13, 14, 15] [.int .i64 (q : Int), .slice (some ⟨g, 0, none⟩) ps.length cc, .int .i64 (ps.length : Int), .bool false, .bool false, .slice (some ⟨g, 0, none⟩) ps.length cc, .int .i64 (q : Int), .pointer (some ⟨g, q, none⟩), .slice aq ps[q].2.length cq, .slice (some ⟨b, o, none⟩) LL.length c, .int .i64 (k : Int), .pointer (some ⟨b, o + k, none⟩), .slice ak LL[k].length ck, .bool true, .bool false, .bool false] (fun w' => Dr wr w') _ hmx (fun _ h => h) rfl rfl (by kernel_rfl) (by kernel_rfl) rfl ?steps ?rest
                case steps =>
                  simp only [putsOfG, Act.put, List.getElem?_toArray, List.getElem?_cons_succ, List.getElem?_cons_zero, Option.bind_some, Nat.reduceAdd, List.setIfInBounds_toArray, List.set_cons_zero, List.set_cons_succ]
                  refine StepsG.cons rfl rfl (fun wq hS => ?_) ?_
                  · have c1 := drCell hS hcrd
                    have c2 := drCell hS hcMd
                    go_simp
                  refine StepsG.cons rfl rfl (fun wq hS => ?_) ?_
                  · have c1 := drCell hS hcrd
                    have c2 := drCell hS hcMd
                    go_simp
                  refine StepsG.cons rfl rfl (fun wq hS => ?_) ?_
                  · have c1 := drCell hS hcrd
                    have c2 := drCell hS hcMd
                    go_simp
                  refine StepsG.cons rfl rfl (fun wq hS => ?_) ?_
                  · have c1 := drCell hS hcrd
                    have c2 := drCell hS hcMd
                    go_simp
                  refine StepsG.cons rfl rfl (fun wq hS => ?_) ?_
                  · have c1 := drCell hS hcrd
                    have c2 := drCell hS hcMd
                    go_simp
                  refine StepsG.cons rfl rfl (fun wq hS => ?_) ?_
                  · have c1 := drCell hS hcrd
                    have c2 := drCell hS hcMd
                    go_simp
                  refine StepsG.cons rfl rfl (fun wq hS => ?_) ?_
                  · have c1 := drCell hS hcrd
                    have c2 := drCell hS hcMd
                    go_simp
                  refine StepsG.cons rfl rfl (fun wq hS => ?_) ?_
                  · have c1 := drCell hS hcrd
                    have c2 := drCell hS hcMd
                    go_simp
                  refine StepsG.cons rfl rfl (fun wq hS => ?_) ?_
                  · have c1 := drCell hS hcrd
                    have c2 := drCell hS hcMd
                    go_simp
                  refine StepsG.cons rfl rfl (fun wq hS => ?_) ?_
                  · have c1 := drCell hS hcrd
                    have c2 := drCell hS hcMd
                    go_simp
                  refine StepsG.cons rfl rfl (fun wq hS => ?_) ?_
                  · have c1 := drCell hS hcrd
                    have c2 := drCell hS hcMd
                    go_simp
                  refine StepsG.cons rfl rfl (fun wq hS => ?_) ?_
                  · have c1 := drCell hS hcrd
                    have c2 := drCell hS hcMd
                    go_simp
                  refine StepsG.cons rfl rfl (fun wq hS => ?_) ?_
                  · have c1 := drCell hS hcrd
                    have c2 := drCell hS hcMd
                    go_simp
                  refine StepsG.cons rfl rfl (fun wq hS => ?_) ?_
                  · go_simp
                    go_at_call 35
                    refine (sameL_any _ _ _ _ _ _ ps[q].2 LL[k] (by omega) wq (HRQ3.out.dr hS) (HRK3.out.dr hS) (by omega)).mono ?_
                    rintro e w5 ⟨rfl, nn, rfl⟩
                    rw [HSE.out]
                    exact ⟨rfl, hS.drewN nn⟩
                  refine StepsG.cons rfl rfl (fun wq hS => ?_) ?_
                  · have c1 := drCell hS hcrd
                    have c2 := drCell hS hcMd
                    go_simp
                  refine StepsG.cons rfl rfl (fun wq hS => ?_) ?_
                  · have c1 := drCell hS hcrd
                    have c2 := drCell hS hcMd
                    go_simp
                  exact StepsG.nil
                case rest =>
                  intro wq hS
                  simp only [putsOfG, Act.put, List.getElem?_toArray, List.getElem?_cons_succ, List.getElem?_cons_zero, Option.bind_some, Nat.reduceAdd, List.setIfInBounds_toArray, List.set_cons_zero, List.set_cons_succ]
                  go_wp2_with fail
                  go_roundw
                  case rel => exact ⟨k + 1, ps, g, cc, by omega, by go_num, hbel.trans ((hdq.trans hS).below _), rfl, hcc, by omega, Lib.hid (by rw [List.take_succ_eq_append_getElem hlt, List.foldl_append, ← HM.out]; exact (insW_no HP.out hqM hxl.out (of_decide_eq_true HSE.out)).symm), HGD, (HO.out.dr (hdq.trans hS)).more⟩
                  case measure => simp [intOf]; omega
              | false =>
                have HSE := Lib.hid hse
                clear hse
                refine wp_region_vals [0, 1, 2, 3, 4, 5, 6, 7, 8, 9, 10, 11, 12, 13, 14, 15] [.int .i64 (q : Int), .slice (some ⟨g, 0, none⟩) ps.length cc, .int .i64 (ps.length : Int), .bool false, .bool false, .slice (some ⟨g, 0, none⟩) ps.length cc, .int .i64 (q : Int), .pointer (some ⟨g, q, none⟩), .slice aq ps[q].2.length cq, .slice (some ⟨b, o, none⟩) LL.length c, .int .i64 (k : Int), .pointer (some ⟨b, o + k, none⟩), .slice ak LL[k].length ck, .bool false, .bool true, .bool true] (fun w' => Dr wr w') _ hmx (fun _ h => h) rfl rfl (by kernel_rfl) (by kernel_rfl) rfl ?steps ?rest
                case steps =>
                  simp only [putsOfG, Act.put, List.getElem?_toArray, List.getElem?_cons_succ, List.getElem?_cons_zero, Option.bind_some, Nat.reduceAdd, List.setIfInBounds_toArray, List.set_cons_zero, List.set_cons_succ]
                  refine StepsG.cons rfl rfl (fun wq hS => ?_) ?_
                  · have c1 := drCell hS hcrd
                    have c2 := drCell hS hcMd
                    go_simp
                  refine StepsG.cons rfl rfl (fun wq hS => ?_) ?_
                  · have c1 := drCell hS hcrd
                    have c2 := drCell hS hcMd
                    go_simp
                  refine StepsG.cons rfl rfl (fun wq hS => ?_) ?_
                  · have c1 := drCell hS hcrd
                    have c2 := drCell hS hcMd
                    go_simp
                  refine StepsG.cons rfl rfl (fun wq hS => ?_) ?_
                  · have c1 := drCell hS hcrd
                    have c2 := drCell hS hcMd
                    go_simp
                  refine StepsG.cons rfl rfl (fun wq hS => ?_) ?_
                  · have c1 := drCell hS hcrd
                    have c2 := drCell hS hcMd
                    go_simp
                  refine StepsG.cons rfl rfl (fun wq hS => ?_) ?_
                  · have c1 := drCell hS hcrd
                    have c2 := drCell hS hcMd
                    go_simp
                  refine StepsG.cons rfl rfl (fun wq hS => ?_) ?_
                  · have c1 := drCell hS hcrd
                    have c2 := drCell hS hcMd
                    go_simp
                  refine StepsG.cons rfl rfl (fun wq hS => ?_) ?_
                  · have c1 := drCell hS hcrd
                    have c2 := drCell hS hcMd
                    go_simp
                  refine StepsG.cons rfl rfl (fun wq hS => ?_) ?_
                  · have c1 := drCell hS hcrd
                    have c2 := drCell hS hcMd
                    go_simp
                  refine StepsG.cons rfl rfl (fun wq hS => ?_) ?_
                  · have c1 := drCell hS hcrd
                    have c2 := drCell hS hcMd
                    go_simp
                  refine StepsG.cons rfl rfl (fun wq hS => ?_) ?_
                  · have c1 := drCell hS hcrd
                    have c2 := drCell hS hcMd
                    go_simp
                  refine StepsG.cons rfl rfl (fun wq hS => ?_) ?_
                  · have c1 := drCell hS hcrd
                    have c2 := drCell hS hcMd
                    go_simp
                  refine StepsG.cons rfl rfl (fun wq hS => ?_) ?_
                  · have c1 := drCell hS hcrd
                    have c2 := drCell hS hcMd
                    go_simp
                  refine StepsG.cons rfl rfl (fun wq hS => ?_) ?_
                  · go_simp
                    go_at_call 35
                    refine (sameL_any _ _ _ _ _ _ ps[q].2 LL[k] (by omega) wq (HRQ3.out.dr hS) (HRK3.out.dr hS) (by omega)).mono ?_
                    rintro e w5 ⟨rfl, nn, rfl⟩
                    rw [HSE.out]
                    exact ⟨rfl, hS.drewN nn⟩
                  refine StepsG.cons rfl rfl (fun wq hS => ?_) ?_
                  · have c1 := drCell hS hcrd
                    have c2 := drCell hS hcMd
                    go_simp
                  refine StepsG.cons rfl rfl (fun wq hS => ?_) ?_
                  · have c1 := drCell hS hcrd
                    have c2 := drCell hS hcMd
                    go_simp
                  exact StepsG.nil
                case rest =>
                  intro wq hS
                  simp only [putsOfG, Act.put, List.getElem?_toArray, List.getElem?_cons_succ, List.getElem?_cons_zero, Option.bind_some, Nat.reduceAdd, List.setIfInBounds_toArray, List.set_cons_zero, List.set_cons_succ]
                  go_wp2_with fail
                  obtain ⟨w2, hw2⟩ : ∃ w2, w2 = wq := ⟨_, rfl⟩
                  rw [← hw2]
                  have hd2 : Dr wo w2 := hw2 ▸ hdq.trans hS
                  have hcr := hcrd
                  clear hw2 hS hcrd hcMd
                  have hown := HO.out.dr hd2
                  have hbel2 := hbel.trans (hd2.below _)
                  have hcx : w2.cell? ⟨b, o + k, none⟩ = some (.slice ak LL[k].length ck) := drCell hd2 hc0
                  have hRT : Rd w2 w2.heap.size (some ⟨g, 0, none⟩) ((ps.map Prod.fst).take q) := (hown.rd.more hown.le).take q
                  have hRC : Rd w2 w2.heap.size (if cc = q then some ⟨g, 0, none⟩ else some ⟨g, q, none⟩) ((ps.map Prod.fst).drop q) := (hown.rd.more hown.le).cutAt (cap := cc) q (by simpa using hcc)
                  have hln := hown.le
                  have hb2 : b < w2.heap.size := by have := hbel2.size; omega
                  have HLT : Hid (q = ((ps.map Prod.fst).take q).length) := Lib.hid (by rw [List.length_take, List.length_map]; omega)
                  have HLD : Hid (ps.length - q = ((ps.map Prod.fst).drop q).length) := Lib.hid (by rw [List.length_drop, List.length_map])
                  have H1T : ∀ u ∈ (ps.map Prod.fst).take q, u.oneCell' = true := fun u hu => HG1.out u (List.mem_of_mem_take hu)
                  have H1D : ∀ u ∈ (ps.map Prod.fst).drop q, u.oneCell' = true := fun u hu => HG1.out u (List.mem_of_mem_drop hu)
                  have hcp : (q : Int) ≤ (cc : Int) := by omega
                  have hq0 : (0 : Int) ≤ (q : Int) := by omega
                  have hqp : (q : Int) ≤ (ps.length : Int) := by omega
                  clear hown hcr
                  go_wp2_with fail
                  go_region_law (first | (refine step_append_b _ (by rfl) (.tmp 48) (.tmp 51) 23 (by rfl) w2.heap.size _ 22 i1 (.slice none 0 0) 24 Try.underlying23 hj hy0 hy1 hy2 rfl _ [] (by rfl) w2 (by go_grown) (Nat.le_refl _) (by first | exact (own_empty1 w2 _ (Nat.le_refl _)).drew | exact ((own_empty1 w2 _ (Nat.le_refl _)).alloc _).drew | exact (own_empty2 w2 _ _ (Nat.le_refl _)).drew) w2.heap.size (some ⟨g, 0, none⟩) q cc ((ps.map Prod.fst).take q) (by rfl) (hRT.below (by go_grown)) HLT.out H1T (by simp only [List.length_nil]; omega) (by omega) ?_; intro v1 w3 ho1 hb3 hg1; have hcx3 : w3.cell? ⟨b, o + k, none⟩ = some (.slice ak LL[k].length ck) := (hb3.cell (p := ⟨b, o + k, none⟩) hb2).trans hcx) | (refine step_append_b _ (by rfl) (.tmp 52) (.tmp 57) 23 (by rfl) w2.heap.size _ 22 i1 (.slice none 0 0) 24 Try.underlying23 hj hy0 hy1 hy2 rfl _ _ (by rfl) w2 (by first | exact hb3 | exact hb3.alloc hb3.size _) (Nat.le_refl _) (by first | exact ho1 | exact ho1.alloc _) _ _ 1 1 [.slice ak LL[k].length ck] (by rfl) (by first | exact Rd.one w3 _ _ | exact (rd_one2 w2 _ _ _).drew.apart hg1 (by simp) (by omega) | exact (rd_one3 w2 _ _ _).drew.apart hg1 (by simp) (by omega)) rfl (by intro u hu; rw [List.mem_singleton.1 hu]; rfl) (by simp; omega) (by omega) ?_; intro v2 w4 ho2 hb4 hg2) | (refine step_append_b _ (by rfl) (.tmp 58) (.tmp 61) 23 (by rfl) w2.heap.size _ 22 i1 (.slice none 0 0) 24 Try.underlying23 hj hy0 hy1 hy2 rfl _ _ (by rfl) w2 hb4 (Nat.le_refl _) ho2 _ _ (ps.length - q) (cc - q) ((ps.map Prod.fst).drop q) (by rfl) (hRC.below hb4) HLD.out H1D (by simp; omega) (by omega) ?_; intro v3 w5 ho3 hb5 hg3))
                  all_goals
                    have hvs : ([] ++ (ps.map Prod.fst).take q) ++ [.slice ak LL[k].length ck] ++ (ps.map Prod.fst).drop q = (insQ ps q (.slice ak LL[k].length ck, LL[k])).map Prod.fst := by simp [insQ, List.map_take, List.map_drop]
                    rw [hvs] at ho3
                    clear hvs
                    have hlen : (insQ ps q (.slice ak LL[k].length ck, LL[k])).length = ps.length + 1 := insQ_len ps q _ hq
                    have HI : Hid ((insQ ps q (.slice ak LL[k].length ck, LL[k])).map Prod.snd = (LL.take (k + 1)).foldl insW []) := Lib.hid (by rw [List.take_succ_eq_append_getElem hlt, List.foldl_append, ← HM.out]; exact (insW_yes (HP.out) hq (.inr ⟨hqM, hxl.out, of_decide_eq_false HSE.out⟩)).symm)
                    have HGN : Hid (∀ p ∈ insQ ps q (.slice ak LL[k].length ck, LL[k]), GoodP w lo B n p) := Lib.hid (insQ_all HGD.out HGK.out)
                    obtain ⟨ps', hM'⟩ : ∃ M', M' = insQ ps q (.slice ak LL[k].length ck, LL[k]) := ⟨_, rfl⟩
                    rw [← hM'] at ho3 hlen HI HGN
                    clear hM'
                    obtain ⟨g3, c3, rfl, hc3⟩ := ho3.formN (by simp; omega)
                    have hl0 : (ps'.map Prod.fst).length = ps'.length := by simp
                    rw [hl0] at hc3
                    have HO3 := Lib.hid ho3
                    clear ho3
                    have HLEN := Lib.hid hlen
                    clear hlen
                    rw [hl0]
                    rw [hl0] at HO3
                    have HL0 := Lib.hid hl0
                    clear hl0
                    go_wp2
                    go_roundw
                    case rel => exact ⟨k + 1, ps', g3, c3, by omega, by go_num, hbel2.trans (hb5.mono hbel2.size), rfl, hc3, by rw [HLEN.out]; omega, HI, HGN, HO3.out.lower hbel2.size⟩
                    case measure => simp [intOf]; omega
        · have hov : decide ((q : Int) < (ps.length : Int)) = false := decide_eq_false (by omega)
          have HQE : Hid (q = ps.length) := Lib.hid (by omega)
          have heq1 : ((q : Int) == (ps.length : Int)) = true := by simp; omega
          have hqN : ps.length ≤ q := by omega
          clear hqM
          go_wp2_with fail
          refine wp_region_vals [0, 1, 2, 3, 4, 5, 6, 7, 8, 9, 10, 11, 12, 13, 14, 15, 16] [.int .i64 (q : Int), .slice (some ⟨g, 0, none⟩) ps.length cc, .int .i64 (ps.length : Int), .bool false, .bool false, undef, undef, undef, undef, undef, undef, undef, undef, undef, undef, undef, .bool false] (fun w' => Dr wr w') _ hmx (fun _ h => h) rfl rfl (by kernel_rfl) (by kernel_rfl) rfl ?steps ?rest
          case steps =>
            simp only [putsOfG, Act.put, List.getElem?_toArray, List.getElem?_cons_succ, List.getElem?_cons_zero, Option.bind_some, Nat.reduceAdd, List.setIfInBounds_toArray, List.set_cons_zero, List.set_cons_succ]
            refine StepsG.cons rfl rfl (fun wq hS => ?_) ?_
            · go_simp
            refine StepsG.cons rfl rfl (fun wq hS => ?_) ?_
            · go_simp
            refine StepsG.cons rfl rfl (fun wq hS => ?_) ?_
            · go_simp
            refine StepsG.cons rfl rfl (fun wq hS => ?_) ?_
            · go_simp
            refine StepsG.cons rfl rfl (fun wq hS => ?_) ?_
            · go_simp
            refine StepsG.skip rfl rfl rfl ?_
            refine StepsG.skip rfl rfl rfl ?_
            refine StepsG.skip rfl rfl rfl ?_
            refine StepsG.skip rfl rfl rfl ?_
            refine StepsG.skip rfl rfl rfl ?_
            refine StepsG.skip rfl rfl rfl ?_
            refine StepsG.skip rfl rfl rfl ?_
            refine StepsG.skip rfl rfl rfl ?_
            refine StepsG.skip rfl rfl rfl ?_
            refine StepsG.skip rfl rfl rfl ?_
            refine StepsG.skip rfl rfl rfl ?_
            refine StepsG.cons rfl rfl (fun wq hS => ?_) ?_
            · go_simp
            exact StepsG.nil
          case rest =>
            intro wq hS
            simp only [putsOfG, Act.put, List.getElem?_toArray, List.getElem?_cons_succ, List.getElem?_cons_zero, Option.bind_some, Nat.reduceAdd, List.setIfInBounds_toArray, List.set_cons_zero, List.set_cons_succ]
            go_wp2_with fail
            obtain ⟨wd, hwd⟩ : ∃ wd, wd = wq := ⟨_, rfl⟩
            rw [← hwd]
            have hdq : Dr wo wd := hwd ▸ hdr.trans hS
            clear hwd hS hcr hdr
            obtain ⟨wr, rfl⟩ : ∃ wr, wr = wd := ⟨_, rfl⟩
            refine wp_region_vals [0, 1, 2, 3, 4, 5, 6, 7, 8, 9, 10, 11, 12, 13, 14, 15] [.int .i64 (q : Int), .slice (some ⟨g, 0, none⟩) ps.length cc, .int .i64 (ps.length : Int), .bool true, .bool true, undef, undef, undef, undef, undef, undef, undef, undef, undef, undef, .bool true] (fun w' => Dr wr w') _ hmx (fun _ h => h) rfl rfl (by kernel_rfl) (by kernel_rfl) rfl ?steps ?rest
            case steps =>
              simp only [putsOfG, Act.put, List.getElem?_toArray, List.getElem?_cons_succ, List.getElem?_cons_zero, Option.bind_some, Nat.reduceAdd, List.setIfInBounds_toArray, List.set_cons_zero, List.set_cons_succ]
              refine StepsG.cons rfl rfl (fun wq hS => ?_) ?_
              · go_simp
              refine StepsG.cons rfl rfl (fun wq hS => ?_) ?_
              · go_simp
              refine StepsG.cons rfl rfl (fun wq hS => ?_) ?_
              · go_simp
              refine StepsG.cons rfl rfl (fun wq hS => ?_) ?_
              · go_simp
              refine StepsG.cons rfl rfl (fun wq hS => ?_) ?_
              · go_simp
              refine StepsG.skip rfl rfl rfl ?_
              refine StepsG.skip rfl rfl rfl ?_
              refine StepsG.skip rfl rfl rfl ?_
              refine StepsG.skip rfl rfl rfl ?_
              refine StepsG.skip rfl rfl rfl ?_
              refine StepsG.skip rfl rfl rfl ?_
              refine StepsG.skip rfl rfl rfl ?_
              refine StepsG.skip rfl rfl rfl ?_
              refine StepsG.skip rfl rfl rfl ?_
              refine StepsG.skip rfl rfl rfl ?_
              refine StepsG.cons rfl rfl (fun wq hS => ?_) ?_
              · go_simp
              exact StepsG.nil
            case rest =>
              intro wq hS
              simp only [putsOfG, Act.put, List.getElem?_toArray, List.getElem?_cons_succ, List.getElem?_cons_zero, Option.bind_some, Nat.reduceAdd, List.setIfInBounds_toArray, List.set_cons_zero, List.set_cons_succ]
              go_wp2_with fail
              obtain ⟨w2, hw2⟩ : ∃ w2, w2 = wq := ⟨_, rfl⟩
              rw [← hw2]
              have hd2 : Dr wo w2 := hw2 ▸ hdq.trans hS
              have hcr := hc0
              clear hw2 hS heq1 hqN
              have hown := HO.out.dr hd2
              have hbel2 := hbel.trans (hd2.below _)
              have hcx : w2.cell? ⟨b, o + k, none⟩ = some (.slice ak LL[k].length ck) := drCell hd2 hc0
              have hRT : Rd w2 w2.heap.size (some ⟨g, 0, none⟩) ((ps.map Prod.fst).take q) := (hown.rd.more hown.le).take q
              have hRC : Rd w2 w2.heap.size (if cc = q then some ⟨g, 0, none⟩ else some ⟨g, q, none⟩) ((ps.map Prod.fst).drop q) := (hown.rd.more hown.le).cutAt (cap := cc) q (by simpa using hcc)
              have hln := hown.le
              have hb2 : b < w2.heap.size := by have := hbel2.size; omega
              have HLT : Hid (q = ((ps.map Prod.fst).take q).length) := Lib.hid (by rw [List.length_take, List.length_map]; omega)
              have HLD : Hid (ps.length - q = ((ps.map Prod.fst).drop q).length) := Lib.hid (by rw [List.length_drop, List.length_map])
              have H1T : ∀ u ∈ (ps.map Prod.fst).take q, u.oneCell' = true := fun u hu => HG1.out u (List.mem_of_mem_take hu)
              have H1D : ∀ u ∈ (ps.map Prod.fst).drop q, u.oneCell' = true := fun u hu => HG1.out u (List.mem_of_mem_drop hu)
              have hcp : (q : Int) ≤ (cc : Int) := by omega
              have hq0 : (0 : Int) ≤ (q : Int) := by omega
              have hqp : (q : Int) ≤ (ps.length : Int) := by omega
              clear hown hcr
              go_wp2_with fail
              go_region_law (first | (refine step_append_b _ (by rfl) (.tmp 48) (.tmp 51) 23 (by rfl) w2.heap.size _ 22 i1 (.slice none 0 0) 24 Try.underlying23 hj hy0 hy1 hy2 rfl _ [] (by rfl) w2 (by go_grown) (Nat.le_refl _) (by first | exact (own_empty1 w2 _ (Nat.le_refl _)).drew | exact ((own_empty1 w2 _ (Nat.le_refl _)).alloc _).drew | exact (own_empty2 w2 _ _ (Nat.le_refl _)).drew) w2.heap.size (some ⟨g, 0, none⟩) q cc ((ps.map Prod.fst).take q) (by rfl) (hRT.below (by go_grown)) HLT.out H1T (by simp only [List.length_nil]; omega) (by omega) ?_; intro v1 w3 ho1 hb3 hg1; have hcx3 : w3.cell? ⟨b, o + k, none⟩ = some (.slice ak LL[k].length ck) := (hb3.cell (p := ⟨b, o + k, none⟩) hb2).trans hcx) | (refine step_append_b _ (by rfl) (.tmp 52) (.tmp 57) 23 (by rfl) w2.heap.size _ 22 i1 (.slice none 0 0) 24 Try.underlying23 hj hy0 hy1 hy2 rfl _ _ (by rfl) w2 (by first | exact hb3 | exact hb3.alloc hb3.size _) (Nat.le_refl _) (by first | exact ho1 | exact ho1.alloc _) _ _ 1 1 [.slice ak LL[k].length ck] (by rfl) (by first | exact Rd.one w3 _ _ | exact (rd_one2 w2 _ _ _).drew.apart hg1 (by simp) (by omega) | exact (rd_one3 w2 _ _ _).drew.apart hg1 (by simp) (by omega)) rfl (by intro u hu; rw [List.mem_singleton.1 hu]; rfl) (by simp; omega) (by omega) ?_; intro v2 w4 ho2 hb4 hg2) | (refine step_append_b _ (by rfl) (.tmp 58) (.tmp 61) 23 (by rfl) w2.heap.size _ 22 i1 (.slice none 0 0) 24 Try.underlying23 hj hy0 hy1 hy2 rfl _ _ (by rfl) w2 hb4 (Nat.le_refl _) ho2 _ _ (ps.length - q) (cc - q) ((ps.map Prod.fst).drop q) (by rfl) (hRC.below hb4) HLD.out H1D (by simp; omega) (by omega) ?_; intro v3 w5 ho3 hb5 hg3))
              all_goals
                have hvs : ([] ++ (ps.map Prod.fst).take q) ++ [.slice ak LL[k].length ck] ++ (ps.map Prod.fst).drop q = (insQ ps q (.slice ak LL[k].length ck, LL[k])).map Prod.fst := by simp [insQ, List.map_take, List.map_drop]
                rw [hvs] at ho3
                clear hvs
                have hlen : (insQ ps q (.slice ak LL[k].length ck, LL[k])).length = ps.length + 1 := insQ_len ps q _ hq
                have HI : Hid ((insQ ps q (.slice ak LL[k].length ck, LL[k])).map Prod.snd = (LL.take (k + 1)).foldl insW []) := Lib.hid (by rw [List.take_succ_eq_append_getElem hlt, List.foldl_append, ← HM.out]; exact (insW_yes (HP.out) hq (.inl HQE.out)).symm)
                have HGN : Hid (∀ p ∈ insQ ps q (.slice ak LL[k].length ck, LL[k]), GoodP w lo B n p) := Lib.hid (insQ_all HGD.out HGK.out)
                obtain ⟨ps', hM'⟩ : ∃ M', M' = insQ ps q (.slice ak LL[k].length ck, LL[k]) := ⟨_, rfl⟩
                rw [← hM'] at ho3 hlen HI HGN
                clear hM'
                obtain ⟨g3, c3, rfl, hc3⟩ := ho3.formN (by simp; omega)
                have hl0 : (ps'.map Prod.fst).length = ps'.length := by simp
                rw [hl0] at hc3
                have HO3 := Lib.hid ho3
                clear ho3
                have HLEN := Lib.hid hlen
                clear hlen
                rw [hl0]
                rw [hl0] at HO3
                have HL0 := Lib.hid hl0
                clear hl0
                go_wp2
                go_roundw
                case rel => exact ⟨k + 1, ps', g3, c3, by omega, by go_num, hbel2.trans (hb5.mono hbel2.size), rfl, hc3, by rw [HLEN.out]; omega, HI, HGN, HO3.out.lower hbel2.size⟩
                case measure => simp [intOf]; omega
    · obtain rfl : k = LL.length := by omega
      have HOW := Lib.hid hown
      clear hown
      go_wp2_with fail
      go_ret
      have e1 : ps.map Prod.snd = srtF LL := by rw [HM.out, List.take_length]; rfl
      rw [← e1]
      refine ⟨some ⟨g, 0, none⟩, cc, by rw [List.length_map]; rfl, ⟨ps.map Prod.fst, HOW.out.rd, HOW.out.loA.lower hlo, by simp, fun j v L hv hL => ?_⟩, hbel⟩
      rw [List.getElem?_map] at hv hL
      obtain ⟨p, hp, rfl⟩ := Option.map_eq_some_iff.1 hv
      rw [hp] at hL
      obtain rfl : p.2 = L := by simpa using hL
      have hin := (HGD.out p (List.mem_of_getElem? hp)).1
      exact (hin.more hB).below hbel |>.more hbel.size
end Go.Proofs.Ytmojonpjgaidgaa
