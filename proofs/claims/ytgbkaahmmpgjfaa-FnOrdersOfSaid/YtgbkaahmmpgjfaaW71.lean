/-
  Walks: all summands with a sum: of the program and of the model.
-/
import Derived.Test.YtgbkaahmmpgjfaaW67
import Derived.Test.YtgbkaahmmpgjfaaW70
import Derived.Test.YtgbkaahmmpgjfaaLL
namespace Go.Proofs.Ytgbkaahmmpgjfaa
open Go.RowKit NP
set_option linter.unusedVariables false
set_option linter.unusedSimpArgs false
theorem T_intsS : (Try.prog.info? 22).map (fun i => (i.zero, i.size, i.bytes)) = some (some (.slice none 0 0), 1, 24) := by kernel_rfl
theorem T_intsS' : ∃ i, Try.prog.info? 22 = some i ∧ i.zero = some (.slice none 0 0) ∧ i.size = 1 ∧ i.bytes = 24 := info_parts T_intsS
/-- a list stored at a place of the outer one: its block was made behind -/
theorem OwnLL.putAt {w : World} {lo hi lou hiu : Nat} {eo e : TypeId} {g n c : Nat} {u : Value} {vs : List Value} {LL : List (List Int)} {L : List Int} (h : OwnLL w lo hi eo e (.slice (some ⟨g, 0, none⟩) n c) vs LL)
    (hu : Own w lou hiu e u (ints L)) (hlou : hi ≤ lou) (hlo : lo ≤ lou) {k : Nat} (hk : k < vs.length) :
    OwnLL (w.setCell ⟨g, k, none⟩ u) lo (w.setCell ⟨g, k, none⟩ u).heap.size eo e (.slice (some ⟨g, 0, none⟩) n c) (vs.set k u) (LL.set k L) := by
  have hgo : g < hi := h.outer.lt g rfl
  have hug : ∀ q, u.ownBlock = some q → q ≠ g := fun q hq e => by have := hu.base q hq; omega
  have hL : ∀ (j : Nat) x q, vs[j]? = some x → x.ownBlock = some q → q < hi := fun j x q hx hq => by
    have hjl : j < LL.length := by rw [← h.len]; exact (List.getElem?_eq_some_iff.1 hx).1
    exact (h.inner j x LL[j] hx (List.getElem?_eq_getElem hjl)).lt q hq
  have hset : ∀ j x, (vs.set k u)[j]? = some x → (j = k ∧ x = u) ∨ (j ≠ k ∧ vs[j]? = some x) := fun j x hx => by
    rw [List.getElem?_set] at hx
    by_cases hj : k = j
    · subst hj; rw [if_pos rfl, if_pos hk] at hx; cases hx; exact .inl ⟨rfl, rfl⟩
    · rw [if_neg hj] at hx; exact .inr ⟨fun e => hj e.symm, hx⟩
  refine ⟨(h.outer.set k u).more, by simp [h.len], fun j x M hx hM => ?_, fun j x q hx hq => ?_, fun j j' x y q hx hy hqx hqy => ?_⟩
  · rcases hset j x hx with ⟨rfl, rfl⟩ | ⟨hj, hx'⟩
    · rw [List.getElem?_set, if_pos rfl, if_pos (by rw [← h.len]; exact hk)] at hM
      cases hM
      exact ((hu.off (p := ⟨g, j, none⟩) hug x).more).lower hlo
    · rw [List.getElem?_set, if_neg (fun e => hj e.symm)] at hM
      exact ((h.inner j x M hx' hM).off (p := ⟨g, k, none⟩) (fun q hq e => h.apartO j x q hx' hq (by rw [e]; rfl)) u).more
  · rcases hset j x hx with ⟨rfl, rfl⟩ | ⟨hj, hx'⟩
    · intro e; cases e; exact hug _ hq rfl
    · exact h.apartO j x q hx' hq
  · rcases hset j x hx with ⟨rfl, rfl⟩ | ⟨hj, hx'⟩
    · rcases hset j' y hy with ⟨rfl, rfl⟩ | ⟨hj', hy'⟩
      · rfl
      · have h1 := hL j' y q hy' hqy; have h2 := hu.base q hqx; omega
    · rcases hset j' y hy with ⟨rfl, rfl⟩ | ⟨hj', hy'⟩
      · have h1 := hL j x q hx' hqx; have h2 := hu.base q hqy; omega
      · exact h.apart j j' x y q hx' hy' hqx hqy
theorem OwnLL.fresh {w : World} {lo hi : Nat} {eo e : TypeId} {v : Value} {N : Nat} (h : Own w lo hi eo v (List.replicate N (.slice none 0 0))) : OwnLL w lo hi eo e v (List.replicate N (.slice none 0 0)) (List.replicate N []) := by
  have hr : ∀ (k : Nat) u, (List.replicate N (Value.slice none 0 0))[k]? = some u → u = .slice none 0 0 := fun k u hu => by
    have := List.mem_of_getElem? hu
    exact (List.mem_replicate.1 this).2
  have hl : ∀ (k : Nat) L, (List.replicate N ([] : List Int))[k]? = some L → L = [] := fun k u hu => by
    have := List.mem_of_getElem? hu
    exact (List.mem_replicate.1 this).2
  refine ⟨h, by simp, fun k u L hu hL => ?_, fun k u g hu hg => ?_, fun j k u u' g hu hu' hg hg' => ?_⟩
  · rw [hr k u hu, hl k L hL]
    exact ⟨World.ownsRow_nil w lo e 1, fun g hg => by simp [Value.ownBlock] at hg, h.le⟩
  · rw [hr k u hu] at hg; simp [Value.ownBlock] at hg
  · rw [hr j u hu] at hg; simp [Value.ownBlock] at hg
/-- all summands with a sum -/
def allS (n : Nat) : List (List Int) := (List.range (2 ^ (n - 1))).map (smk n)
def asF (n : Int) : List (List Int) := if 0 ≤ n ∧ n ≤ 8 then allS n.toNat else []
theorem asF_yes {n : Nat} (h : n ≤ 8) : asF (n : Int) = allS n := by unfold asF; rw [if_pos (by omega), Int.toNat_natCast]
theorem asF_no {n : Int} (h : ¬ (0 ≤ n ∧ n ≤ 8)) : asF n = [] := by unfold asF; rw [if_neg h]
theorem allS_len (n : Nat) : (allS n).length = 2 ^ (n - 1) := by simp [allS]
theorem pow8 {n : Nat} (h : n ≤ 8) : 2 ^ (n - 1) ≤ 128 := by
  have : (2 : Nat) ^ (n - 1) ≤ 2 ^ 7 := Nat.pow_le_pow_right (by omega) (by omega)
  omega
def midS (n k : Nat) : List (List Int) := (List.range k).map (smk n) ++ List.replicate (2 ^ (n - 1) - k) []
theorem midS_len {n k : Nat} (h : k ≤ 2 ^ (n - 1)) : (midS n k).length = 2 ^ (n - 1) := by simp [midS]; omega
theorem midS_next {n k : Nat} (h : k < 2 ^ (n - 1)) : (midS n k).set k (smk n k) = midS n (k + 1) := by
  unfold midS
  rw [show 2 ^ (n - 1) - k = (2 ^ (n - 1) - (k + 1)) + 1 by omega, List.replicate_succ, List.set_append_right _ _ (by simp), List.length_map, List.length_range, Nat.sub_self, List.set_cons_zero, List.range_succ, List.map_append]
  simp
theorem midS_end (n : Nat) : midS n (2 ^ (n - 1)) = allS n := by simp [midS, allS]
set_option maxHeartbeats 1000000 in
theorem iAllSums_any (n : Int) (w : World) :
    Calls Try.prog 37 #[.int .i64 n] w fun e w' => ∃ (a' : Option Addr) (c' : Nat) (vs : List Value), e = .returned (.slice a' (asF n).length c') ∧ OwnLL w' w.heap.size w'.heap.size 22 3 (.slice a' (asF n).length c') vs (asF n) ∧ Below w.heap.size w w' := by
  by_cases h : 0 ≤ n ∧ n ≤ 8
  · obtain ⟨k, rfl⟩ := Int.eq_ofNat_of_zero_le h.1
    have hk : k ≤ 8 := by omega
    have hk16 : k ≤ 16 := by omega
    obtain ⟨i1, hj, hy0, hy1, hy2⟩ := T_intsS'
    have hM := fun w => masksOf_any k w hk16
    have hN := pow8 hk
    have HE := Lib.hid (asF_yes hk)
    have HMN := Lib.hid (fun (j : Nat) (h : j < 2 ^ (k - 1)) => midS_next (n := k) (k := j) h)
    have HML := Lib.hid (fun (j : Nat) (h : j ≤ 2 ^ (k - 1)) => midS_len (n := k) (k := j) h)
    have HM0 : Hid (midS k 0 = List.replicate (2 ^ (k - 1)) []) := Lib.hid (by simp [midS])
    have HEND := Lib.hid (midS_end k)
    have HAL := Lib.hid (allS_len k)
    obtain ⟨N, hNN⟩ : ∃ N, N = 2 ^ (k - 1) := ⟨_, rfl⟩
    rw [← hNN] at hN
    simp only [← hNN] at hM HMN HML HM0 HEND HAL
    have HM := Lib.hid hM
    clear hM hNN h
    go_enter Try.func37, Try.ntmps37
    go_wp2_with (first | (go_at_call 67; refine (HM.out _).mono ?_; rintro e w' ⟨rfl, rfl⟩) | (refine wpList_make_full _ rfl _ _ 37 rfl w.heap.size 22 i1 (.slice none 0 0) 1 Try.underlying37 hj hy0 hy1 .i64 .i64 _ _ N rfl rfl rfl rfl (by rw [hy2]; omega) (by unfold maxLen; omega) (Nat.le_refl _) ?_; intro w1 hown1 hg1; have ho1 : Own w1 w.heap.size w1.heap.size 22 (.slice (some ⟨w.heap.size, 0, none⟩) N N) (List.replicate N (.slice none 0 0)) := ⟨by simpa [toList_madeCells_one, Value.cells] using hown1, fun g hg => (hown1.lt g hg).2, Nat.le_refl _⟩; have hb1 : Below w.heap.size w w1 := (Below.refl _ _).grown hg1 (Nat.le_refl _) (by simp); clear hown1 hg1))
    go_loopw [4, 16] (fun _ i wr => ∃ q : Nat, q ≤ N ∧ i = .int .i64 q ∧ Below w.heap.size w wr ∧ ∃ vs, OwnLL wr w.heap.size wr.heap.size 22 3 (.slice (some ⟨w.heap.size, 0, none⟩) N N) vs (midS k q)) (fun _ i _ => N - (intOf i).toNat)
    case atStart => 
      have e := OwnLL.fresh (e := 3) ho1
      rw [← HM0.out] at e
      exact ⟨0, Nat.zero_le _, rfl, hb1, List.replicate N (.slice none 0 0), e⟩
    case round =>
      obtain ⟨q, hq, rfl, hbr, vs, hLL⟩ := hrel
      clear hb1 ho1
      have hvl := hLL.len
      rw [HML.out q hq] at hvl
      have HVL := Lib.hid hvl
      clear hvl
      by_cases hlt : q < N
      · have hbs := hbr.size
        have HO := Lib.hid hLL
        have HX := Lib.hid (HMN.out q hlt)
        clear hLL
        go_wp2_with (first | (go_at_call 68; refine (smlist_any k q _ hk16).mono ?_; rintro e w2 ⟨u, cu, rfl, hu, hb2⟩; have hL2 := HO.out.below hb2; have hz2 := hb2.size; have hlo2 := hL2.outer.spot (k := q) (by rw [HVL.out]; exact hlt); obtain ⟨gg, uu, ee, hl1, hl2, hcc, hff⟩ := hlo2; obtain rfl : w.heap.size = gg := (by injection ee with ee; injection ee); clear ee; have HU := Lib.hid hu; have HL2 := Lib.hid hL2; clear hu hL2))
        go_roundw
        case rel =>
          refine ⟨q + 1, by omega, by go_num, (hbr.trans (hb2.mono hbs)).setCell (by simp) _, vs.set q (.slice u (smk k q).length cu), ?_⟩
          have e := HL2.out.putAt HU.out (Nat.le_refl _) hbs (k := q) (by rw [HVL.out]; exact hlt)
          rw [HX.out] at e
          exact e
        case measure => simp [intOf] <;> omega
      · obtain rfl : q = N := by omega
        rw [HEND.out] at hLL
        have HO := Lib.hid hLL
        clear hLL
        go_wp2
        go_ret
        rw [HE.out]
        exact ⟨_, _, vs, by rw [HAL.out]; rfl, by rw [HAL.out]; exact HO.out, hbr⟩
  · have HE := Lib.hid (asF_no h)
    by_cases h0 : n < 0
    · clear h
      go_enter Try.func37, Try.ntmps37
      go_wp2
      go_ret
      rw [HE.out]
      first | exact ⟨none, 0, [], rfl, OwnLL.nil _ _ _ _, Below.refl _ _⟩ | exact ⟨none, 0, rfl, ⟨[], OwnLL.nil _ _ _ _⟩, Below.refl _ _⟩
    · have h8 : 8 < n := by omega
      clear h
      go_enter Try.func37, Try.ntmps37
      go_wp2
      go_ret
      rw [HE.out]
      first | exact ⟨none, 0, [], rfl, OwnLL.nil _ _ _ _, Below.refl _ _⟩ | exact ⟨none, 0, rfl, ⟨[], OwnLL.nil _ _ _ _⟩, Below.refl _ _⟩
end Go.Proofs.Ytgbkaahmmpgjfaa
