/-
  Walks: the model's kind at three names, its list of the parts of a kind.
-/
import Derived.Test.YtfcmfjhlmjnjiaaW39
import Derived.Test.YtfcmfjhlmjnjiaaW34
import Derived.Test.YtfcmfjhlmjnjiaaW4
import Derived.Test.YtfcmfjhlmjnjiaaD3
namespace Go.Proofs.Ytfcmfjhlmjnjiaa
open Go.RowKit NP
set_option linter.unusedVariables false
set_option linter.unusedSimpArgs false
theorem OwnLL.keep {w w' : World} {lo hi : Nat} {eo e : TypeId} {v : Value} {vs : List Value} {LL : List (List Int)} (h : OwnLL w lo hi eo e v vs LL) (hs : w.heap.size ≤ w'.heap.size) (hk : ∀ g, lo ≤ g → g < hi → w'.heap[g]? = w.heap[g]?) : OwnLL w' lo hi eo e v vs LL :=
  ⟨h.outer.keep hs fun g hg => hk g (h.outer.base g hg) (h.outer.lt g hg), h.len, fun k u L hu hL => (h.inner k u L hu hL).keep hs fun g hg => hk g ((h.inner k u L hu hL).base g hg) ((h.inner k u L hu hL).lt g hg), h.apartO, h.apart⟩
theorem remIn_twoK (L : List Int) : remIn 2 [1] L = kRem 2 1 L := by
  unfold remIn kRem
  congr 1
  funext j
  simp [hasI]
  try rw [Bool.eq_iff_iff]
  try simp
  try omega
def okQ (L : List Int) : Bool := valid L && decide (L.length ≤ 16) && L.all fun x => decide (1 ≤ x) && decide (x ≤ 16)
def okTab : Bool := (List.range 13).all fun n => (allQ n n n).all okQ
set_option maxRecDepth 100000 in
theorem okTab_all : okTab = true := by decide +kernel
theorem allQ_ok {n : Nat} (hn : n ≤ 12) : ∀ L ∈ allQ n n n, valid L = true ∧ SmallParts L := by
  intro L hL
  have h := okTab_all
  unfold okTab at h
  have h1 := List.all_eq_true.1 h n (by simp; omega)
  have h2 := List.all_eq_true.1 h1 L hL
  unfold okQ at h2
  simp only [Bool.and_eq_true, decide_eq_true_eq, List.all_eq_true] at h2
  exact ⟨h2.1.1, h2.1.2, h2.2⟩

/-- the model's kind of a name -/
def SK (s : ByteArray) (K : List Int → Bool) : Prop := ∀ (a : Option Addr) (c B : Nat) (L : List Int) (w : World), valid L = true → Rd w B a (ints L) → B ≤ w.heap.size →
    Calls Try.prog 30 #[.string s, .slice a L.length c] w fun e w' => e = .returned (.tuple #[.bool (K L), .bool true]) ∧ Below w.heap.size w w'
theorem sk_distinct : SK ⟨#[100, 105, 115, 116, 105, 110, 99, 116]⟩ (kFall 1 1) := by
  intro a c B L w hv h hB
  have HV := Lib.hid hv
  have hl16 := (valid_bd hv).2.2.2
  clear hv
  go_enter Try.func30, Try.ntmps30
  go_wp2_with (go_at_call 54; refine (gaps_any _ _ B L 1 (by omega) HV.out _ h).mono ?_; rintro e wv ⟨rfl, n1, rfl⟩)
  go_ret2
  exact ⟨rfl, (Dr.n w n1).below _⟩
theorem sk_self : SK ⟨#[115, 101, 108, 102]⟩ kSelf := by
  intro a c B L w hv h hB
  have HV := Lib.hid hv
  have hl16 := (valid_bd hv).2.2.2
  have hcl := (valid_bd (valid_conj hv)).2.2.2
  clear hv
  go_enter Try.func30, Try.ntmps30
  go_wp2_with (first
    | (go_at_call 55; refine (same_any _ _ _ _ _ _ L (conj L) (by omega) _ ((h.more hB).below hb2) ho2.rd (by omega)).mono ?_; rintro e wv ⟨rfl, n3, rfl⟩)
    | (go_at_call 56; refine (sconjugate_any _ _ B L _ h hB HV.out).mono ?_; rintro e w2 ⟨a2, c2, rfl, ho2, hb2⟩))
  go_ret2
  exact ⟨rfl, hb2.trans ((Dr.n _ n3).below _)⟩
set_option maxHeartbeats 1000000 in
theorem sk_distinctodd : SK ⟨#[100, 105, 115, 116, 105, 110, 99, 116, 111, 100, 100]⟩ (fun L => kFall 1 1 L && kRem 2 1 L) := by
  intro a c B L w hv h hB
  have HV := Lib.hid hv
  have hl16 := (valid_bd hv).2.2.2
  clear hv
  cases hk : kFall 1 1 L with
  | false =>
    have HK := Lib.hid hk
    clear hk
    go_enter Try.func30, Try.ntmps30
    go_wp2_with (go_at_call 54; refine (gaps_any _ _ B L 1 (by omega) HV.out _ h).mono ?_; rintro e wv ⟨rfl, n1, rfl⟩; rw [HK.out])
    go_ret2
    exact ⟨by simp [HK.out], (Dr.n w n1).below _⟩
  | true =>
    have HK := Lib.hid hk
    clear hk
    go_enter Try.func30, Try.ntmps30
    go_wp2_with (first
      | (go_at_call 53; refine (allRemain_any _ _ _ _ _ B L [1] 2 (by omega) HV.out _ (h2.below hb2) (rd_new w2 _ _) (by simp)).mono ?_; rintro e w3 ⟨rfl, rfl⟩; rw [remIn_twoK])
      | (go_at_call 54; refine (gaps_any _ _ B L 1 (by omega) HV.out _ h).mono ?_; rintro e wv ⟨rfl, n1, rfl⟩; rw [HK.out]; have h2 := h.dr (Dr.n w n1); have hb1 := (Dr.n w n1).below w.heap.size; obtain ⟨w2, hw2⟩ : ∃ w2, w2 = w.drewN n1 := ⟨_, rfl⟩; rw [← hw2] at h2 hb1 ⊢; have hb2 : Below B w2 (w2.alloc (.cells (ints [1]).toArray 3)) := (Below.refl _ _).alloc (Nat.le_trans hB hb1.size) _; clear hw2))
    go_ret2
    exact ⟨by simp [HK.out], hb1.alloc hb1.size _⟩
/-- what lies between lo and the end of w2 is the same in w' -/
def Kp (w2 w' : World) (lo : Nat) : Prop := w2.heap.size ≤ w'.heap.size ∧ ∀ g, lo ≤ g → g < w2.heap.size → w'.heap[g]? = w2.heap[g]?
theorem Kp.below {w2 w w' : World} {lo : Nat} (h : Kp w2 w lo) (hb : Below w.heap.size w w') : Kp w2 w' lo :=
  ⟨Nat.le_trans h.1 hb.size, fun g h1 h2 => (hb.block g (Nat.lt_of_lt_of_le h2 h.1)).trans (h.2 g h1 h2)⟩
theorem Kp.alloc {w2 w : World} {lo : Nat} (h : Kp w2 w lo) (o : Obj) : Kp w2 (w.alloc o) lo :=
  h.below ((Below.refl _ _).alloc (Nat.le_refl _) o)
theorem Kp.grown {w2 w w' : World} {lo : Nat} {row : Option Nat} (h : Kp w2 w lo) (hg : w.grownBy w' row) (hr : ∀ g, row = some g → g < lo ∨ w2.heap.size ≤ g) : Kp w2 w' lo :=
  ⟨Nat.le_trans h.1 hg.size, fun g h1 h2 => (hg.block g (Nat.lt_of_lt_of_le h2 h.1) (fun e => by have := hr g e.symm; omega)).trans (h.2 g h1 h2)⟩
set_option maxHeartbeats 4000000 in
theorem kindList_any (s : ByteArray) (K : List Int → Bool) (hSK : SK s K) (n : Nat) (hn : n ≤ 12) (w : World) :
    Calls Try.prog 32 #[.string s, .int .i64 (n : Int)] w fun e w' => ∃ a' c' us, e = .returned (.slice a' us.length c') ∧ us.length ≤ 400 ∧ Own w' w.heap.size w'.heap.size 32 (.slice a' us.length c') us ∧ (∀ u ∈ us, ∃ M, SmallParts M ∧ Own w' w.heap.size w'.heap.size 3 u (ints M)) ∧ Below w.heap.size w w' := by
  obtain ⟨i0, hi, hz0, hz1, hz2⟩ := T_int'
  obtain ⟨i1, hj, hy0, hy1, hy2⟩ := T_ints'
  have hE := Own.empty w 32
  obtain ⟨w1, hw1⟩ : ∃ w1, w1 = w.alloc (.cells #[] 32) := ⟨_, rfl⟩
  have hb1 : Below w.heap.size w w1 := hw1 ▸ (Below.refl _ _).alloc (Nat.le_refl _) _
  have hz1' : w1.heap.size = w.heap.size + 1 := by rw [hw1, World.size_alloc]
  have HW1 := Lib.hid hw1
  have HZ1 := Lib.hid hz1'
  rw [← hw1] at hE
  clear hw1 hz1'
  have HZ2 : Hid ((w1.alloc (.cells #[] 3)).heap.size = w.heap.size + 1 + 1) := Lib.hid (by rw [World.size_alloc, HZ1.out])
  obtain ⟨LL, hLL⟩ : ∃ LL, LL = allQ n n n := ⟨_, rfl⟩
  have HOK : Hid (∀ L ∈ LL, valid L = true ∧ SmallParts L) := Lib.hid (hLL ▸ allQ_ok hn)
  have hle : LL.length ≤ 400 := hLL ▸ allQ_le (by omega) (by omega) (by omega)
  have HL := Lib.hid hLL
  clear hLL
  go_enter Try.func32, Try.ntmps32
  go_wp2_with fail
  rw [← HW1.out]
  refine (slist_lists n (by omega) n _ 0 (w1.alloc (.cells #[] 3)).heap.size [] n _ (Nat.le_refl _) (by simp; omega) (by omega) (fun h => absurd rfl h) (Nat.le_refl _)).mono ?_
  rintro e w2 ⟨a6, c6, vs, rfl, h6, hb2⟩
  rw [show List.map (fun x => [] ++ x) (allQ n n n) = allQ n n n from by simp, ← HL.out] at h6
  rw [← HL.out]
  rw [HZ2.out] at h6 hb2
  have HALL := Lib.hid (h6.lower (show w.heap.size + 1 ≤ w.heap.size + 1 + 1 by omega))
  clear h6
  have hbw2 : Below w.heap.size w w2 := (hb1.alloc hb1.size _).trans (hb2.mono (by omega))
  have hE2 : Own w2 w.heap.size (w.heap.size + 1) 32 (.slice (some ⟨w.heap.size, 0, none⟩) 0 0) [] := (hE.alloc _).below (hb2.mono (by omega))
  have hsz2 : w.heap.size + 1 ≤ w2.heap.size := by have := hb2.size; rw [HZ2.out] at this; omega
  go_wp2_with fail
  clear hE hb1 hb2
  go_loopw [5, 7] (fun v ii wr => ∃ (i : Nat) (a5 : Option Addr) (c5 : Nat) (us : List Value), ii = .int .i64 (i : Int) ∧ i ≤ LL.length ∧ us.length ≤ i ∧ v = .slice a5 us.length c5 ∧ Own wr w.heap.size wr.heap.size 32 (.slice a5 us.length c5) us ∧ (∀ g, (Value.slice a5 us.length c5).ownBlock = some g → g < w.heap.size + 1 ∨ w2.heap.size ≤ g) ∧ (∀ u ∈ us, u ∈ vs) ∧ Kp w2 wr (w.heap.size + 1) ∧ Below w.heap.size w wr) (fun _ ii _ => LL.length - (intOf ii).toNat)
  case atStart => exact ⟨0, _, _, [], rfl, Nat.zero_le _, Nat.le_refl _, rfl, hE2.more, fun g hg => by left; cases hg; exact Nat.lt_succ_self _, by simp, ⟨Nat.le_refl _, fun _ _ _ => rfl⟩, hbw2⟩
  case round =>
    obtain ⟨i, a5, c5, us, rfl, hiN, hui, rfl, ho, hout, hmem, hkp, hbel⟩ := hrel
    clear hE2 hbw2
    have HO := Lib.hid ho
    clear ho
    by_cases hlt : i < LL.length
    · have hlt' : (i : Int) < (LL.length : Int) := by omega
      obtain ⟨hv, hs⟩ := HOK.out _ (List.getElem_mem hlt)
      obtain ⟨gA, aM, cM, rfl, hgl, hgh, hcell, hoM, hvk⟩ := (HALL.out.keep hkp.1 hkp.2).at_ hlt
      obtain ⟨M, hM⟩ : ∃ M, M = LL[i] := ⟨_, rfl⟩
      rw [← hM] at hv hs hcell hoM hvk
      have HV := Lib.hid hv
      have HR := Lib.hid hoM.rd
      clear hv hs hM hoM
      have hkz := hkp.1
      cases hK : K M with
      | false =>
        have HK := Lib.hid hK
        clear hK
        go_wp2_with (go_at_call 30; refine (hSK _ _ _ M _ HV.out HR.out (by omega)).mono ?_; rintro e w3 ⟨rfl, hb3⟩; rw [HK.out])
        go_roundw
        case rel =>
          exact ⟨i + 1, a5, c5, us, by go_num, by omega, by omega, rfl, (HO.out.below hb3).more, hout, hmem, hkp.below hb3, hbel.trans (hb3.mono hbel.size)⟩
        case measure => simp [intOf]; omega
      | true =>
        have HK := Lib.hid hK
        clear hK
        go_wp2_with (first
          | (at_builtin; refine wpList_append_o _ rfl (.tmp 31) (.tmp 36) 22 rfl w.heap.size w3.heap.size 32 i1 (.slice none 0 0) 24 Try.underlying22 hj hy0 hy1 hy2 rfl _ us rfl ((HO.out.below hb3).more.alloc _) (w3.heap.size + 1) (some ⟨w3.heap.size, 0, none⟩) 1 1 [.slice aM M.length cM] rfl (Rd.one w3 _ _) rfl (by intro u hu; rw [List.mem_singleton.1 hu]; rfl) (by unfold maxLen; omega) (by omega) (by rw [World.size_alloc]; have := hbel.size; have := hb3.size; omega) ?_; intro v' w6 ho6 hg6 hat6)
          | (go_at_call 30; refine (hSK _ _ _ M _ HV.out HR.out (by omega)).mono ?_; rintro e w3 ⟨rfl, hb3⟩; rw [HK.out]; have hcell3 := (hb3.cell (p := ⟨gA, i, none⟩) (World.block_lt_of_cell? _ _ hcell)).trans hcell))
        go_roundw
        case rel =>
          have hlow : ∀ g, (Value.slice a5 us.length c5).ownBlock = some g → g < w.heap.size + 1 ∨ w2.heap.size ≤ g := hout
          obtain ⟨a7, c7, rfl⟩ := ho6.form
          rw [show (us ++ [Value.slice aM M.length cM]).length = us.length + 1 from by simp] at ho6 hat6 ⊢
          have hrow := HO.out.base
          refine ⟨i + 1, a7, c7, us ++ [Value.slice aM M.length cM], by go_num, by omega, by simp; omega, by simp, by simpa using ho6, fun g hg => ?_, fun u hu => ?_, ((hkp.below hb3).alloc _).grown hg6 hlow, below_push (hbel.trans (hb3.mono hbel.size)) (Nat.le_refl _) hg6 hrow⟩
          · rcases hat6 with e | e
            · exact hlow g (e ▸ (by simpa using hg))
            · have hg' : (Value.slice a7 (us.length + 1) c7).ownBlock = some g := by simpa using hg
              rw [e] at hg'
              cases hg'
              right
              have := hb3.size
              rw [World.size_alloc]
              omega
          · rcases List.mem_append.1 hu with h | h
            · exact hmem u h
            · rw [List.mem_singleton.1 h]; exact List.mem_of_getElem? hvk
        case measure => simp [intOf]; omega
    · obtain rfl : i = LL.length := by omega
      go_wp2_with fail
      go_ret
      refine ⟨a5, c5, us, rfl, by omega, HO.out, fun u hu => ?_, hbel⟩
      obtain ⟨k, hk, hku⟩ := List.getElem_of_mem (hmem u hu)
      have hAL := HALL.out.keep hkp.1 hkp.2
      have hkl : k < LL.length := by rw [← hAL.len]; exact hk
      refine ⟨LL[k], (HOK.out _ (List.getElem_mem hkl)).2, ?_⟩
      exact (((hAL.inner k u LL[k] (by rw [List.getElem?_eq_getElem hk, hku]) (List.getElem?_eq_getElem hkl)).lower (show w.heap.size ≤ w.heap.size + 1 by omega)).more)
end Go.Proofs.Ytfcmfjhlmjnjiaa
