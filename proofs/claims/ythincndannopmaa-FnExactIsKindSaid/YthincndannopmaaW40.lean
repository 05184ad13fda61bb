/-
  Walks: the model's kind at three names, its list of the parts of a kind.
-/
import Derived.Test.YthincndannopmaaW39
import Derived.Test.YthincndannopmaaW34
import Derived.Test.YthincndannopmaaW4
import Derived.Test.YthincndannopmaaD3
namespace Go.Proofs.Ythincndannopmaa
open Go.RowKit NP
set_option linter.unusedVariables false
set_option linter.unusedSimpArgs false
theorem OwnLL.keep {w w' : World} {lo hi : Nat} {eo e : TypeId} {v : Value} {vs : List Value} {LL : List (List Int)} (h : OwnLL w lo hi eo e v vs LL) (hs : w.heap.size ≤ w'.heap.size) (hk : ∀ g, lo ≤ g → g < hi → w'.heap[g]? = w.heap[g]?) : OwnLL w' lo hi eo e v vs LL :=
  ⟨h.outer.keep hs fun g hg => hk g (h.outer.base g hg) (h.outer.lt g hg), h.len, fun k u L hu hL => (h.inner k u L hu hL).keep hs fun g hg => hk g ((h.inner k u L hu hL).base g hg) ((h.inner k u L hu hL).lt g hg), h.apartO, h.apart⟩
theorem remIn_twoK (L : List Int) : remIn 2 [1] L = kRem 2 1 L := by
  unfold remIn kRem
  congr 1
  funext j
  simp [hasI]
  try rw [Bool.eq_iff_iff]
  try simp
  try omega
def okQ (L : List Int) : Bool := valid L && decide (L.length ≤ 16) && L.all fun x => decide (1 ≤ x) && decide (x ≤ 16)
def okTab : Bool := (List.range 13).all fun n => (allQ n n n).all okQ
set_option maxRecDepth 100000 in
theorem okTab_all : okTab = true := by decide +kernel
theorem allQ_ok {n : Nat} (hn : n ≤ 12) : ∀ L ∈ allQ n n n, valid L = true ∧ SmallParts L := by
  intro L hL
  have h := okTab_all
  unfold okTab at h
  have h1 := List.all_eq_true.1 h n (by simp; omega)
  have h2 := List.all_eq_true.1 h1 L hL
  unfold okQ at h2
  simp only [Bool.and_eq_true, decide_eq_true_eq, List.all_eq_true] at h2
  exact ⟨h2.1.1, h2.1.2, h2.2⟩

/-- the model's kind of a name -/
def SK (s : ByteArray) (K : List Int → Bool) : Prop := ∀ (a : Option Addr) (c B : Nat) (L : List Int) (w : World), valid L = true → Rd w B a (ints L) → B ≤ w.heap.size →
    Calls Try.prog 34 #[.string s, .slice a L.length c] w fun e w' => e = .returned (.tuple #[.bool (K L), .bool true]) ∧ Below w.heap.size w w'
theorem sk_distinct : SK ⟨#[100, 105, 115, 116, 105, 110, 99, 116]⟩ (kFall 1 1) := by
  intro a c B L w hv h hB
  have HV := Lib.hid hv
  have hl16 := (valid_bd hv).2.2.2
  clear hv
  go_enter Try.func34, Try.ntmps34
  go_wp2_with (go_at_call 43; refine (gaps_any _ _ B L 1 (by omega) HV.out _ h).mono ?_; rintro e wv ⟨rfl, n1, rfl⟩)
  go_ret2
  exact ⟨rfl, (Dr.n w n1).below _⟩
theorem sk_self : SK ⟨#[115, 101, 108, 102]⟩ kSelf := by
  intro a c B L w hv h hB
  have HV := Lib.hid hv
  have hl16 := (valid_bd hv).2.2.2
  have hcl := (valid_bd (valid_conj hv)).2.2.2
  clear hv
  go_enter Try.func34, Try.ntmps34
  go_wp2_with (first
    | (go_at_call 44; refine (same_any _ _ _ _ _ _ L (conj L) (by omega) _ ((h.more hB).below hb2) ho2.rd (by omega)).mono ?_; rintro e wv ⟨rfl, n3, rfl⟩)
    | (go_at_call 45; refine (sconjugate_any _ _ B L _ h hB HV.out).mono ?_; rintro e w2 ⟨a2, c2, rfl, ho2, hb2⟩))
  go_ret2
  exact ⟨rfl, hb2.trans ((Dr.n _ n3).below _)⟩
set_option maxHeartbeats 1000000 in
theorem sk_distinctodd : SK ⟨#[100, 105, 115, 116, 105, 110, 99, 116, 111, 100, 100]⟩ (fun L => kFall 1 1 L && kRem 2 1 L) := by
  intro a c B L w hv h hB
  have HV := Lib.hid hv
  have hl16 := (valid_bd hv).2.2.2
  clear hv
  cases hk : kFall 1 1 L with
  | false =>
    have HK := Lib.hid hk
    clear hk
    go_enter Try.func34, Try.ntmps34
    go_wp2_with (go_at_call 43; refine (gaps_any _ _ B L 1 (by omega) HV.out _ h).mono ?_; rintro e wv ⟨rfl, n1, rfl⟩; rw [HK.out])
    go_ret2
    exact ⟨by simp [HK.out], (Dr.n w n1).below _⟩
  | true =>
    have HK := Lib.hid hk
    clear hk
    go_enter Try.func34, Try.ntmps34
    go_wp2_with (first
      | (go_at_call 42; refine (allRemain_any _ _ _ _ _ B L [1] 2 (by omega) HV.out _ (h2.below hb2) (rd_new w2 _ _) (by simp)).mono ?_; rintro e w3 ⟨rfl, rfl⟩; rw [remIn_twoK])
      | (go_at_call 43; refine (gaps_any _ _ B L 1 (by omega) HV.out _ h).mono ?_; rintro e wv ⟨rfl, n1, rfl⟩; rw [HK.out]; have h2 := h.dr (Dr.n w n1); have hb1 := (Dr.n w n1).below w.heap.size; obtain ⟨w2, hw2⟩ : ∃ w2, w2 = w.drewN n1 := ⟨_, rfl⟩; rw [← hw2] at h2 hb1 ⊢; have hb2 : Below B w2 (w2.alloc (.cells (ints [1]).toArray 3)) := (Below.refl _ _).alloc (Nat.le_trans hB hb1.size) _; clear hw2))
    go_ret2
    exact ⟨by simp [HK.out], hb1.alloc hb1.size _⟩
end Go.Proofs.Ythincndannopmaa
