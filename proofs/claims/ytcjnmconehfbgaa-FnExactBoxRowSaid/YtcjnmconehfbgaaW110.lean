/-
  Walks of the program: all parts in a box, by their sums.
-/
import Derived.Test.YtcjnmconehfbgaaW79
import Derived.Test.YtcjnmconehfbgaaW72
import Derived.Test.YtcjnmconehfbgaaLL2
import Derived.Test.YtcjnmconehfbgaaW108
namespace Go.Proofs.Ytcjnmconehfbgaa
open Go.RowKit NP
set_option maxRecDepth 8000
set_option linter.unusedVariables false
set_option linter.unusedSimpArgs false
/-- whether parts are in a box -/
def HB (a b : Nat) (P : List Int) : Bool := decide ((P.length : Int) ≤ (a : Int) ∧ P.headD 0 ≤ (b : Int))
/-- the parts with a sum in a box -/
def LB (a b s : Nat) : List (List Int) := (allQ s s s).filter (HB a b)
theorem holds_isK (a b : Nat) (w : World) : IsK w (.func (.func 81) #[.agg #[.int .i64 (a : Int), .int .i64 (b : Int)]] #[]) (HB a b) :=
  ⟨_, _, _, rfl, enters_of Try.func81 (by kernel_rfl) rfl, fun w1 _ L hL => holds_any a b L hL w1⟩
/-- lists of numbers, each in a block of its own -/
structure InnV (w : World) (lo hi : Nat) (e : TypeId) (us : List Value) (LL : List (List Int)) : Prop where
  len : us.length = LL.length
  inner : ∀ (k : Nat) u L, us[k]? = some u → LL[k]? = some L → Own w lo hi e u (ints L)
  apart : ∀ (j k : Nat) u u' g, us[j]? = some u → us[k]? = some u' → u.ownBlock = some g → u'.ownBlock = some g → j = k
theorem InnV.kb {w w' : World} {lo hi lo' : Nat} {e : TypeId} {us : List Value} {LL : List (List Int)} (h : InnV w lo hi e us LL) (k : Kb w w' lo') (hl : lo' ≤ lo) : InnV w' lo hi e us LL :=
  ⟨h.len, fun j u L hu hL => ((h.inner j u L hu hL).lower (Nat.le_refl _)).keep k.1 fun g hg => k.2 g (Nat.le_trans hl ((h.inner j u L hu hL).base g hg)) (Nat.lt_of_lt_of_le ((h.inner j u L hu hL).lt g hg) (h.inner j u L hu hL).le), h.apart⟩
theorem InnV.nil (w : World) (lo hi : Nat) (e : TypeId) : InnV w lo hi e [] [] := ⟨rfl, fun k u L hu => by simp at hu, fun j k u u' g hu => by simp at hu⟩
theorem OwnLL.innV {w : World} {lo hi : Nat} {eo e : TypeId} {v : Value} {vs : List Value} {LL : List (List Int)} (h : OwnLL w lo hi eo e v vs LL) : InnV w lo hi e vs LL := ⟨h.len, h.inner, h.apart⟩
theorem InnV.append {w : World} {lo mid hi : Nat} {e : TypeId} {us us' : List Value} {LL LL' : List (List Int)} (h : InnV w lo mid e us LL) (h' : InnV w mid hi e us' LL') (hl : lo ≤ mid) (hm : mid ≤ hi) (hw : hi = w.heap.size) : InnV w lo hi e (us ++ us') (LL ++ LL') := by
  subst hw
  have hlen := h.len
  have split : ∀ (k : Nat) (u : Value), (us ++ us')[k]? = some u → (k < us.length ∧ us[k]? = some u) ∨ (us.length ≤ k ∧ us'[k - us.length]? = some u) := fun k u hu => by
    by_cases hk : k < us.length
    · rw [List.getElem?_append_left hk] at hu; exact .inl ⟨hk, hu⟩
    · rw [List.getElem?_append_right (by omega)] at hu; exact .inr ⟨by omega, hu⟩
  have low : ∀ (k : Nat) (u : Value) (g : Nat), us[k]? = some u → u.ownBlock = some g → g < mid := fun k u g hu hg => by
    have hk := (List.getElem?_eq_some_iff.1 hu).1
    have := h.inner k u LL[k] hu (List.getElem?_eq_getElem (by omega))
    exact this.lt g hg
  have high : ∀ (k : Nat) (u : Value) (g : Nat), us'[k]? = some u → u.ownBlock = some g → mid ≤ g := fun k u g hu hg => by
    have hk := (List.getElem?_eq_some_iff.1 hu).1
    have hl' := h'.len
    have := h'.inner k u LL'[k] hu (List.getElem?_eq_getElem (by omega))
    exact this.base g hg
  refine ⟨by rw [List.length_append, List.length_append, h.len, h'.len], fun k u L hu hL => ?_, fun j k u u' g hu hu' hg hg' => ?_⟩
  · rcases split k u hu with ⟨hk, hu1⟩ | ⟨hk, hu1⟩
    · rw [List.getElem?_append_left (by omega)] at hL
      exact (h.inner k u L hu1 hL).more
    · rw [List.getElem?_append_right (by omega), ← hlen] at hL
      exact (h'.inner _ u L hu1 hL).lower hl
  · rcases split j u hu with ⟨hj, hu1⟩ | ⟨hj, hu1⟩ <;> rcases split k u' hu' with ⟨hk, hu2⟩ | ⟨hk, hu2⟩
    · exact h.apart j k u u' g hu1 hu2 hg hg'
    · have h1 := low j u g hu1 hg; have h2 := high _ u' g hu2 hg'; omega
    · have h1 := low k u' g hu2 hg'; have h2 := high _ u g hu1 hg; omega
    · have := h'.apart _ _ u u' g hu1 hu2 hg hg'; omega
theorem InnV.more {w : World} {lo hi : Nat} {e : TypeId} {us : List Value} {LL : List (List Int)} (h : InnV w lo hi e us LL) : InnV w lo w.heap.size e us LL := ⟨h.len, fun k u L hu hL => (h.inner k u L hu hL).more, h.apart⟩
/-- the first k lists of lists, by sums -/
structure BS (w : World) (lo a b k : Nat) (outs : List Value) (vss : List (List Value)) : Prop where
  lenO : outs.length = k
  lenV : vss.length = k
  rows : ∀ (j : Nat) u vs, outs[j]? = some u → vss[j]? = some vs → Own w lo w.heap.size 22 u vs ∧ vs.length = (LB a b j).length
  inn : InnV w lo w.heap.size 3 vss.flatten ((List.range k).flatMap (LB a b))
theorem BS.kb {w w' : World} {lo a b k : Nat} {outs : List Value} {vss : List (List Value)} (h : BS w lo a b k outs vss) (hk : Kb w w' lo) : BS w' lo a b k outs vss :=
  ⟨h.lenO, h.lenV, fun j u vs hu hv => ⟨((h.rows j u vs hu hv).1.kb hk).more, (h.rows j u vs hu hv).2⟩, (h.inn.kb hk (Nat.le_refl _)).more⟩
theorem BS.next {w w' : World} {lo a b k : Nat} {outs : List Value} {vss : List (List Value)} {u : Value} {us : List Value} (h : BS w lo a b k outs vss) (hb : Below w.heap.size w w') (hlo : lo ≤ w.heap.size) (hu : OwnLL w' w.heap.size w'.heap.size 22 3 u us (LB a b k)) : BS w' lo a b (k + 1) (outs ++ [u]) (vss ++ [us]) := by
  have hkb : Kb w w' lo := ⟨hb.size, fun g _ h2 => hb.block g h2⟩
  have h0 := h.kb hkb
  refine ⟨by simp [h.lenO], by simp [h.lenV], fun j x vs hx hv => ?_, ?_⟩
  · by_cases hj : j < k
    · rw [List.getElem?_append_left (by rw [h.lenO]; exact hj)] at hx
      rw [List.getElem?_append_left (by rw [h.lenV]; exact hj)] at hv
      exact h0.rows j x vs hx hv
    · rw [List.getElem?_append_right (by rw [h.lenO]; omega), h.lenO] at hx
      rw [List.getElem?_append_right (by rw [h.lenV]; omega), h.lenV] at hv
      have e0 : j - k = 0 := by
        rcases Nat.eq_zero_or_pos (j - k) with z | z
        · exact z
        · rw [List.getElem?_eq_none (by simp only [List.length_singleton]; omega)] at hx; cases hx
      rw [e0] at hx hv
      cases hx; cases hv
      obtain rfl : j = k := by
        have := Nat.le_of_not_lt hj
        omega
      exact ⟨hu.outer.lower hlo, hu.len⟩
  · have e1 : (List.range (k + 1)).flatMap (LB a b) = (List.range k).flatMap (LB a b) ++ LB a b k := by rw [List.range_succ, List.flatMap_append]; simp
    rw [e1, List.flatten_append, List.flatten_singleton]
    exact InnV.append (h.inn.kb hkb (Nat.le_refl _)) hu.innV hlo hb.size rfl
set_option maxRecDepth 100000 in
set_option maxHeartbeats 4000000 in
theorem partsBySum_any (a b : Nat) (ha : a ≤ 4) (hb4 : b ≤ 4) (w : World) :
    Calls Try.prog 58 #[.agg #[.int .i64 (a : Int), .int .i64 (b : Int)]] w fun e w' => ∃ outs vss, e = .returned (.slice (some ⟨w.heap.size + 1, 0, none⟩) (a * b + 1) (a * b + 1)) ∧ Blk w' (w.heap.size + 1) 36 (outs : List Value).toArray ∧ BS w' (w.heap.size + 2) a b (a * b + 1) outs vss ∧ Below w.heap.size w w' := by
  obtain ⟨p, hp⟩ : ∃ p, a * b = p := ⟨_, rfl⟩
  have hp16 : p ≤ 16 := by rw [← hp]; exact Nat.le_trans (Nat.mul_le_mul ha hb4) (by omega)
  have hpi : ((a : Nat) : Int) * ((b : Nat) : Int) = (p : Int) := by rw [← Int.natCast_mul, hp]
  rw [hp]
  clear hp
  obtain ⟨Zs, hZs⟩ : ∃ Zs, List.replicate (p + 1) (Value.slice none 0 0) = Zs := ⟨_, rfl⟩
  have hmk : ∀ w, (Instr.makeSlice 44 (.int .i64 ((p : Int) + 1)) (.int .i64 ((p : Int) + 1))).run Try.prog w = .ok (.slice (some ⟨w.heap.size, 0, none⟩) (p + 1) (p + 1)) (w.alloc (.cells Zs.toArray 36)) := fun w => by rw [← hZs]; exact run_make_lists (P := Try.prog) 44 36 _ Try.underlying44 rfl rfl rfl rfl (p + 1) (by omega) w
  obtain ⟨w2, hw2⟩ : ∃ w2, w2 = (w.alloc (.cells #[.int .i64 (a : Int), .int .i64 (b : Int)] 61)).alloc (.cells Zs.toArray 36) := ⟨_, rfl⟩
  have hbx : Blk w2 w.heap.size 61 #[.int .i64 (a : Int), .int .i64 (b : Int)] := by rw [hw2]; exact (Blk.new w _ _).alloc _
  have hrow : Blk w2 (w.heap.size + 1) 36 (([] : List Value) ++ List.replicate (p + 1 - 0) (Value.slice none 0 0)).toArray := by
    have e := Blk.new (w.alloc (.cells #[.int .i64 (a : Int), .int .i64 (b : Int)] 61)) 36 Zs.toArray
    rw [World.size_alloc] at e
    rw [hw2, List.nil_append, Nat.sub_zero, hZs]; exact e
  have hbw2 : Below w.heap.size w w2 := hw2 ▸ ((Below.refl _ _).alloc (Nat.le_refl _) _).alloc (by simp) _
  have hz2 : w.heap.size + 2 ≤ w2.heap.size := by rw [hw2]; simp
  have HW2 := Lib.hid hw2
  clear hw2 hZs
  go_enter Try.func58, Try.ntmps58
  go_wp2_with fail
  rw [← HW2.out]
  clear hmk hpi
  go_loopw [14] (fun ii wr => ∃ (k : Nat) (outs : List Value) (vss : List (List Value)), ii = .int .i64 (k : Int) ∧ k ≤ p + 1 ∧ Blk wr w.heap.size 61 #[.int .i64 (a : Int), .int .i64 (b : Int)] ∧ Blk wr (w.heap.size + 1) 36 (outs ++ List.replicate (p + 1 - k) (Value.slice none 0 0)).toArray ∧ BS wr (w.heap.size + 2) a b k outs vss ∧ w.heap.size + 2 ≤ wr.heap.size ∧ Below w.heap.size w wr) (fun ii _ => p + 1 - (intOf ii).toNat)
  case atStart => exact ⟨0, [], [], rfl, Nat.zero_le _, hbx, hrow, ⟨rfl, rfl, fun j u vs hu => by simp at hu, InnV.nil _ _ _ _⟩, hz2, hbw2⟩
  case round =>
    obtain ⟨k, outs, vss, rfl, hk, hblx, hblk, hbs, hzr, hbel⟩ := hrel
    by_cases hlt : k < p + 1
    · have hlt' : (k : Int) < (p : Int) + 1 := by omega
      have cb : wr.heap[w.heap.size]? = some (.cells #[.int .i64 (a : Int), .int .i64 (b : Int)] 61 (0, 0)) := hblx
      have HL := Lib.hid hbs.lenO
      have HBS := Lib.hid hbs
      have c0 := hblx.cell 0
      have c1 := hblx.cell 1
      simp only [List.getElem?_toArray, List.getElem?_cons_zero, List.getElem?_cons_succ] at c0 c1
      have hck : wr.cell? ⟨w.heap.size + 1, k, none⟩ = some (.slice none 0 0) := by
        rw [hblk.cell k, List.getElem?_toArray, List.getElem?_append_right (by rw [HL.out]; omega), HL.out, List.getElem?_replicate, if_pos (by omega)]
      have HBK := Lib.hid hblk
      clear hbs hblk
      go_wp2_with (go_at_call 80; refine (partsWhere_all k (by omega) _ (HB a b) _ (holds_isK a b _)).mono ?_; rintro e w3 ⟨a3, c3, us, rfl, h3, hb3⟩; have hck3 := (hb3.cell (p := ⟨w.heap.size + 1, k, none⟩) (World.block_lt_of_cell? _ _ hck)).trans hck; have hfz3 := (HBK.out.below hb3 HBK.out.lt).free k)
      go_roundw
      case rel =>
        have hb3' := HBK.out.below hb3 HBK.out.lt
        have hz3 := hb3.size
        have hkb : ∀ u, Kb w3 (w3.setCell ⟨w.heap.size + 1, k, none⟩ u) (w.heap.size + 2) := fun u => ⟨by simp [World.setCell], fun g h1 _ => Below.heap_setCell w3 ⟨w.heap.size + 1, k, none⟩ u g (by show g ≠ w.heap.size + 1; omega)⟩
        refine ⟨k + 1, outs ++ [.slice a3 (LB a b k).length c3], vss ++ [us], by go_num, by omega, (hblx.below hb3 hblx.lt).off (by simp) _, ?_, (HBS.out.next hb3 hzr h3).kb (hkb _), by simp [World.setCell]; omega, (hbel.trans (hb3.mono hbel.size)).setCell (p := ⟨w.heap.size + 1, k, none⟩) (by simp) _⟩
        have h5 := hb3'.set k (.slice a3 (LB a b k).length c3)
        rw [List.setIfInBounds_toArray, fill_setV HL.out hlt] at h5
        exact h5
      case measure => simp [intOf] <;> omega
    · obtain rfl : k = p + 1 := by omega
      have HBS := Lib.hid hbs
      have HBK := Lib.hid hblk
      clear hbs hblk
      go_wp2_with fail
      go_ret
      have h5 := HBK.out
      rw [Nat.sub_self, List.replicate_zero, List.append_nil] at h5
      exact ⟨outs, vss, rfl, h5, HBS.out, hbel⟩
end Go.Proofs.Ytcjnmconehfbgaa
