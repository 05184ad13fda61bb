/-
  Walks: the draws of piles.
-/
import Derived.Test.YtnheolhgdinjgaaD21
namespace Go.Proofs.Ytnheolhgdinjgaa
open Go.RowKit NP
set_option maxRecDepth 100000
set_option linter.unusedVariables false
set_option linter.unusedSimpArgs false
theorem Own.tight {w : World} {lo hi g n c : Nat} {e : TypeId} {vs : List Value} (h : Own w lo hi e (.slice (some ⟨g, 0, none⟩) n c) vs) : Own w g (g + 1) e (.slice (some ⟨g, 0, none⟩) n c) vs := by
  have hlt := h.lt g rfl
  have hle := h.le
  refine ⟨⟨h.row.1, ?_⟩, fun k hk => by simp [Value.ownBlock] at hk; omega, by omega⟩
  rcases h.row.2 with ⟨h1, _⟩ | ⟨g2, cap, cur, h1, h2, h3⟩
  · cases h1
  · have e := h1
    injection e with e _ _
    injection e with e
    injection e with e
    exact .inr ⟨g2, cap, cur, h1, by omega, h3⟩
theorem Own.ne {w : World} {lo hi lo2 hi2 : Nat} {e e2 : TypeId} {v v2 : Value} {vs vs2 : List Value} (h : Own w lo hi e v vs) (h2 : Own w lo2 hi2 e2 v2 vs2) (hne : e ≠ e2) {g : Nat} (hg : v.ownBlock = some g) : v2.ownBlock ≠ some g := by
  intro hg2
  rcases h.row.2 with ⟨h1, _⟩ | ⟨a, cap, cur, rfl, _, hx, _⟩
  · subst h1; simp [Value.ownBlock] at hg
  rcases h2.row.2 with ⟨h1, _⟩ | ⟨b, cap2, cur2, rfl, _, hy, _⟩
  · subst h1; simp [Value.ownBlock] at hg2
  simp [Value.ownBlock] at hg hg2
  subst hg hg2
  rw [hx] at hy
  injection hy with hy
  injection hy with _ hy
  exact hne hy
theorem Own.chg2 {w w' : World} {lo hi g l h : Nat} {e : TypeId} {v : Value} {vs : List Value} (ho : Own w lo hi e v vs) (hc : Chg2 g l h w w') (hg : g < lo) (hd : ∀ k, v.ownBlock = some k → k < l ∨ h ≤ k) : Own w' lo hi e v vs :=
  ho.keep hc.size fun k hk => hc.block k (Nat.lt_of_lt_of_le (ho.lt k hk) ho.le) (by have := ho.base k hk; omega) (hd k hk)
theorem Own.cap {w : World} {lo hi n c : Nat} {a : Option Addr} {e : TypeId} {vs : List Value} (h : Own w lo hi e (.slice a n c) vs) : n ≤ c := by
  have hn := h.len
  rcases Nat.eq_zero_or_pos vs.length with h0 | h0
  · omega
  · obtain ⟨g, c2, e2, hc⟩ := h.formN h0
    injection e2 with _ _ e3
    omega
theorem Inn.own {w : World} {lo hi B : Nat} {e : TypeId} {a : Option Addr} {c : Nat} {L : List Int} (h : Own w lo hi e (.slice a L.length c) (ints L)) (hB : hi ≤ B) : Inn w B (.slice a L.length c) L := ⟨a, c, rfl, h.rd.more hB, h.cap⟩
theorem below_of_chg {g : Nat} {w w' : World} (h : w.grownBy w' (some g)) (hlt : g < w.heap.size) : Below g w w' := (Chg.of h (Nat.le_refl _)).below (by omega)
theorem chg_of2 {g lo hi n : Nat} {w w' : World} (h : Chg2 g lo hi w w') (h1 : n ≤ lo) (h2 : n ≤ w.heap.size) : Chg g n w w' := ⟨h.os, h.tape, h.output, h.size, fun k hk hne => h.block k (by omega) hne (.inl (by omega))⟩
/-- the first row is another one now -/
theorem rdll_first {w w3 : World} {lo hi hi2 gO c n g gR : Nat} {eo e : TypeId} {v1 : Value} {us : List Value} {LL : List (List Int)} {a' : Option Addr} {c' : Nat} {M' : List Int} (h : OwnLL w lo hi eo e (.slice (some ⟨gO, 0, none⟩) n c) us LL) (hne : eo ≠ e)
    (hv1 : us[0]? = some v1) (hb1 : v1.ownBlock = some gR) (hc : Chg2 g gR (gR + 1) w w3) (hg : g < lo) (hn : Own w3 gR hi2 e (.slice a' M'.length c') (ints M')) :
    RdLL (w3.setCell ⟨gO, 0, none⟩ (.slice a' M'.length c')) (w3.setCell ⟨gO, 0, none⟩ (.slice a' M'.length c')).heap.size (some ⟨gO, 0, none⟩) (LL.set 0 M') := by
  have hgO : gR ≠ gO := fun h9 => h.apartO 0 v1 gR hv1 hb1 (by rw [h9]; rfl)
  have ho3 := h.outer.chg2 hc hg (fun k hk => by simp [Value.ownBlock] at hk; omega)
  have ho4 := (ho3.set 0 (.slice a' M'.length c')).more
  refine ⟨us.set 0 (.slice a' M'.length c'), ho4.rd, by rw [List.length_set, List.length_set, h.len], fun k v L hk hL => ?_⟩
  have hs : (w3.setCell ⟨gO, 0, none⟩ (.slice a' M'.length c')).heap.size = w3.heap.size := by simp [World.setCell]
  rcases Nat.eq_zero_or_pos k with rfl | hk0
  · rw [List.getElem?_set] at hk hL
    have h1 : 0 < us.length := (List.getElem?_eq_some_iff.1 hv1).1
    have h2 : 0 < LL.length := by rw [← h.len]; exact h1
    simp [h1] at hk
    simp [h2] at hL
    subst hk hL
    have hx := hn.off (p := ⟨gO, 0, none⟩) (fun k hk he => (hn.ne ho3 (Ne.symm hne) hk) (by rw [he]; rfl)) (.slice a' M'.length c')
    exact Inn.own hx (by have := hn.le; omega)
  · rw [List.getElem?_set_ne (by omega)] at hk hL
    have hi' := h.inner k v L hk hL
    have hx3 := hi'.chg2 hc hg (fun x hx => by
      rcases Nat.lt_trichotomy x gR with h9 | h9 | h9
      · exact .inl h9
      · subst h9; have := h.apart 0 k v1 v x hv1 hk hb1 hx; omega
      · exact .inr h9)
    obtain ⟨a2, c2, rfl⟩ := hi'.form
    rw [List.length_map] at hx3 ⊢
    have hx4 := hx3.off (p := ⟨gO, 0, none⟩) (fun x hx he => (hx3.ne ho3 (Ne.symm hne) hx) (by rw [he]; rfl)) (.slice a' M'.length c')
    exact Inn.own hx4 (by have := hx3.le; omega)
set_option maxHeartbeats 4000000 in
theorem somePile_any (g q : Nat) (bs : List Int) (w : World) (hq : q ≤ 600000) (h : Rdr w g bs q) :
    Calls Try.prog 40 #[.pointer (some ⟨g, 0, none⟩)] w fun e w' => ∃ a' c' LL, e = .returned (.slice a' LL.length c') ∧ RdLL w' w'.heap.size a' LL ∧ LL.length ≤ 17 ∧ LL.length ≤ c' ∧ (∀ M ∈ LL, M.length ≤ 40) ∧ Below g w w' := by
  obtain ⟨i0, hi, hz0, hz1, hz2⟩ := T_int'
  obtain ⟨i1, hj, hy0, hy1, hy2⟩ := info_parts T_intsD
  have hlt := h.lt
  go_enter Try.func40, Try.ntmps40
  go_wp2_with fail
  refine (aPile_any g q bs w (by omega) h).mono ?_
  rintro e w1 ⟨aO, cO, us, LL, rfl, hO, hl16, hsm, ⟨q1, hq1, h1⟩, hg1⟩
  have hul := hO.len
  have HO := Lib.hid hO
  have HSM := Lib.hid hsm
  clear hO hsm h
  go_wp2_with fail
  refine (pick_any g _ _ bs _ (by omega) (by omega) h1).mono ?_
  rintro e w2 ⟨y, rfl, hp0, hp1, h2, hg2, hzp⟩
  have hO2 := HO.out.chg hg2 hlt
  have hgw2 := chg_trans hg1 hg2
  have hz2s := hgw2.size
  have h12 : w1.heap.size ≤ w2.heap.size := hg2.size
  have h40 : ∀ M ∈ LL, M.length ≤ 40 := fun M hM => by have := (HSM.out M hM).1.1; omega
  have H40 := Lib.hid h40
  clear hg1 hg2 h1 HO hp1 hzp h40
  have HO2 := Lib.hid hO2
  clear hO2
  by_cases y0 : y = 0
  · have b0 : (y == 0) = true := beq_iff_eq.2 y0
    clear y0
    go_wp2_with (at_builtin; refine wpList_append_o _ rfl (.tmp 10) (.tmp 12) 22 rfl w.heap.size w2.heap.size 31 i1 (.slice none 0 0) 24 Try.underlying22 hj hy0 hy1 hy2 rfl _ us rfl ((HO2.out.outer.more.alloc _).alloc _) (w2.heap.size + 2) (some ⟨w2.heap.size + 1, 0, none⟩) 1 1 [.slice (some ⟨w2.heap.size, 0, none⟩) 0 0] rfl (rd_one2 w2 _ _ _) rfl (by intro u hu; rw [List.mem_singleton.1 hu]; rfl) (by unfold maxLen; omega) (by omega) (by rw [World.size_alloc, World.size_alloc]; omega) ?_; intro v' w6 ho6 hg6 hat6)
    have e1 : OwnLL ((w2.alloc (.cells #[] 3)).alloc (.cells #[.slice (some ⟨w2.heap.size, 0, none⟩) 0 0] 31)) w.heap.size w1.heap.size 31 3 (.slice aO LL.length cO) us LL := (HO2.out.below ((Below.refl _ _).alloc h12 _)).below ((Below.refl _ _).alloc (by rw [World.size_alloc]; omega) _)
    have e2 : Own ((w2.alloc (.cells #[] 3)).alloc (.cells #[.slice (some ⟨w2.heap.size, 0, none⟩) 0 0] 31)) w2.heap.size (w2.heap.size + 1) 3 (.slice (some ⟨w2.heap.size, 0, none⟩) 0 0) (ints []) := (Own.empty w2 3).alloc _
    have hLL6 : OwnLL w6 w.heap.size w6.heap.size 31 3 v' (us ++ [.slice (some ⟨w2.heap.size, 0, none⟩) 0 0]) (LL ++ [[]]) := OwnLL.append e1 e2 h12 (by omega) (by simpa using ho6) hg6 hat6
    have hc6 := chg_row (chg_alloc (chg_alloc hgw2 (.cells #[] 3)) (.cells #[.slice (some ⟨w2.heap.size, 0, none⟩) 0 0] 31)) hg6 HO2.out.outer.base
    obtain ⟨a6, c6, rfl⟩ := hLL6.form
    have hcap := hLL6.outer.cap
    have hrd := hLL6.rd
    clear e1 e2 hLL6 ho6 hg6 hat6
    go_wp2_with fail
    go_ret
    exact ⟨a6, c6, LL ++ [[]], rfl, hrd, by simp; omega, hcap, fun M hM => by
      rcases List.mem_append.1 hM with h9 | h9
      · exact H40.out M h9
      · rw [List.mem_singleton.1 h9]; simp, below_of_chg hc6 hlt⟩
  · have b0 : (y == 0) = false := beq_eq_false_iff_ne.2 y0
    clear y0
    by_cases y1 : y = 1
    · have b1 : (y == 1) = true := beq_iff_eq.2 y1
      clear y1
      go_wp2_with fail
      refine (someParts_grown g _ bs w2 (by omega) h2).mono ?_
      rintro e w3 ⟨aM, cM, M, rfl, hoM, hsM, -, hg3⟩
      have hO3 := HO2.out.chg hg3 hlt
      have hgw3 := chg_trans hgw2 hg3
      have h23 : w2.heap.size ≤ w3.heap.size := hg3.size
      have HO3 := Lib.hid hO3
      have HOM := Lib.hid hoM
      have hM40 := hsM.1
      clear hgw2 hg3 hO3 hoM h2 HO2 hsM
      go_wp2_with (at_builtin; refine wpList_append_o _ rfl (.tmp 16) (.tmp 19) 22 rfl w.heap.size w3.heap.size 31 i1 (.slice none 0 0) 24 Try.underlying22 hj hy0 hy1 hy2 rfl _ us rfl (HO3.out.outer.more.alloc _) (w3.heap.size + 1) (some ⟨w3.heap.size, 0, none⟩) 1 1 [.slice aM M.length cM] rfl (Rd.one w3 _ _) rfl (by intro u hu; rw [List.mem_singleton.1 hu]; rfl) (by unfold maxLen; omega) (by omega) (by rw [World.size_alloc]; omega) ?_; intro v' w6 ho6 hg6 hat6)
      have hLL6 : OwnLL w6 w.heap.size w6.heap.size 31 3 v' (us ++ [.slice aM M.length cM]) (LL ++ [M]) := OwnLL.append (HO3.out.below ((Below.refl _ _).alloc HO3.out.le _)) (HOM.out.alloc (.cells #[.slice aM M.length cM] 31)) h12 (by omega) (by simpa using ho6) hg6 hat6
      have hc6 := chg_row (chg_alloc hgw3 (.cells #[.slice aM M.length cM] 31)) hg6 HO3.out.outer.base
      obtain ⟨a6, c6, rfl⟩ := hLL6.form
      have hcap := hLL6.outer.cap
      have hrd := hLL6.rd
      clear hLL6 ho6 hg6 hat6
      go_wp2_with fail
      go_ret
      exact ⟨a6, c6, LL ++ [M], rfl, hrd, by simp; omega, hcap, fun X hX => by
        rcases List.mem_append.1 hX with h9 | h9
        · exact H40.out X h9
        · rw [List.mem_singleton.1 h9]; exact hM40, below_of_chg hc6 hlt⟩
    · have b1 : (y == 1) = false := beq_eq_false_iff_ne.2 y1
      clear y1
      by_cases y2 : y = 2
      · have b2 : (y == 2) = true := beq_iff_eq.2 y2
        clear y2
        by_cases h0 : 0 < LL.length
        · have h0' : decide (0 < LL.length) = true := decide_eq_true h0
          have h0i : (0 : Int) < (LL.length : Int) := by omega
          obtain ⟨gO, aR, cR, eO, hgO1, hgO2, hcO, hoR, hus⟩ := HO2.out.at_ h0
          subst eO
          have hsR := HSM.out _ (List.getElem_mem h0)
          generalize LL[0] = R at hcO hoR hus hsR
          obtain ⟨gR, cR', eR, -⟩ := hoR.formN (by simpa using hsR.2)
          injection eR with e1 e2 e3
          subst e1
          clear e2 e3
          have hgR := hoR.base gR rfl
          have hgR2 := hoR.lt gR rfl
          have hfO : w2.frozen? ⟨gO, 0, none⟩ = false := by
            obtain ⟨g5, u5, e5, _, _, _, h5⟩ := HO2.out.outer.spot (k := 0) (by omega)
            injection e5 with e5
            injection e5 with e5
            rw [e5]; exact h5
          have HOR := Lib.hid hoR.tight
          have HUS := Lib.hid hus
          have HSR := Lib.hid hsR.1
          clear hoR hus hsR
          go_wp2_with fail
          refine (bent_at g _ gR (gR + 1) (some ⟨gR, 0, none⟩) cR R bs w2 (by omega) h2 HSR.out (by omega) HOR.out (by omega) (by omega)).mono ?_
          rintro e w3 ⟨aM, cM, M, rfl, hoM, hsM, -, hc3⟩
          have ho3 := HO2.out.outer.chg2 hc3 hlt (fun k hk => by
            have := HO2.out.apartO 0 _ gR HUS.out rfl
            rw [hk] at this
            have : k ≠ gR := fun h9 => this (by rw [h9])
            omega)
          obtain ⟨g5, u5, e5, _, _, hc5, hf5⟩ := ho3.spot (k := 0) (by omega)
          injection e5 with e5
          injection e5 with e5
          subst e5
          have hrd := rdll_first HO2.out (by decide) HUS.out rfl hc3 hlt hoM
          have hM40 := hsM.1
          have hch : Chg g w.heap.size w w3 := (Chg.of hgw2 (Nat.le_refl _)).trans (chg_of2 hc3 (by omega) (by omega))
          clear hcO hfO
          go_wp2_with fail
          go_ret
          have hb3 := (hch.below (by omega)).setCell (p := ⟨gO, 0, none⟩) (by show g ≤ gO; omega) (.slice aM M.length cM)
          have hle := ho3.cap
          have e0 : (LL.set 0 M).length = LL.length := by rw [List.length_set]
          rw [← e0]
          exact ⟨some ⟨gO, 0, none⟩, cO, LL.set 0 M, rfl, hrd, by rw [e0]; omega, by rw [e0]; exact hle, fun X hX => by
            rcases List.mem_or_eq_of_mem_set hX with h9 | h9
            · exact H40.out X h9
            · rw [h9]; exact hM40, hb3⟩
        · have h0' : decide (0 < LL.length) = false := decide_eq_false h0
          have hcap := HO2.out.outer.cap
          go_wp2_with fail
          go_ret
          exact ⟨aO, cO, LL, rfl, HO2.out.rd.more HO2.out.le, by omega, hcap, H40.out, below_of_chg hgw2 hlt⟩
      · have b2 : (y == 2) = false := beq_eq_false_iff_ne.2 y2
        clear y2
        have hcap := HO2.out.outer.cap
        go_wp2_with fail
        go_ret
        exact ⟨aO, cO, LL, rfl, HO2.out.rd.more HO2.out.le, by omega, hcap, H40.out, below_of_chg hgw2 hlt⟩
theorem DrawValidPile_any (a : Option Addr) (c B : Nat) (bs : List Int) (w : World) (h : Rd w B a (bs.map (Value.int .u8))) (hB : B ≤ w.heap.size) (hb : ∀ n ∈ bs, (Lit.int .u8 n).wf = true) (hl : bs.length ≤ 1048576) (hc : bs.length ≤ c) :
    Calls Try.prog 18 #[.slice a bs.length c] w fun e w' => ∃ a' c' LL, e = .returned (.slice a' LL.length c') ∧ RdLL w' w'.heap.size a' LL ∧ LL.length ≤ 17 ∧ LL.length ≤ c' ∧ (∀ M ∈ LL, M.length ≤ 40) ∧ Below w.heap.size w w' := by
  go_enter Try.func18, Try.ntmps18
  go_wp2_with fail
  refine (newReader_any _ _ B bs _ h hB hb hl hc).mono ?_
  rintro e w1 ⟨rfl, h1, hb1, -⟩
  go_wp2_with fail
  refine (somePile_any _ 0 _ _ (by omega) h1).mono ?_
  rintro e w2 ⟨a', c', LL, rfl, hr, hl17, hcap, h40, hb2⟩
  go_wp2_with fail
  go_ret
  exact ⟨a', c', LL, rfl, hr, hl17, hcap, h40, hb1.trans hb2⟩
theorem DrawPileSum_any (a : Option Addr) (c B : Nat) (bs : List Int) (w : World) (h : Rd w B a (bs.map (Value.int .u8))) (hB : B ≤ w.heap.size) (hb : ∀ n ∈ bs, (Lit.int .u8 n).wf = true) (hl : bs.length ≤ 1048576) (hc : bs.length ≤ c) :
    Calls Try.prog 22 #[.slice a bs.length c] w fun e w' => ∃ a' c' LL, e = .returned (.slice a' LL.length c') ∧ RdLL w' w'.heap.size a' LL ∧ LL.length ≤ 17 ∧ LL.length ≤ c' ∧ (∀ M ∈ LL, M.length ≤ 40) ∧ Below w.heap.size w w' := by
  go_enter Try.func22, Try.ntmps22
  go_wp2_with fail
  refine (newReader_any _ _ B bs _ h hB hb hl hc).mono ?_
  rintro e w1 ⟨rfl, h1, hb1, -⟩
  go_wp2_with fail
  refine (somePile_any _ 0 _ _ (by omega) h1).mono ?_
  rintro e w2 ⟨a', c', LL, rfl, hr, hl17, hcap, h40, hb2⟩
  go_wp2_with fail
  go_ret
  exact ⟨a', c', LL, rfl, hr, hl17, hcap, h40, hb1.trans hb2⟩
theorem DrawTurnPile_any (a : Option Addr) (c B : Nat) (bs : List Int) (w : World) (h : Rd w B a (bs.map (Value.int .u8))) (hB : B ≤ w.heap.size) (hb : ∀ n ∈ bs, (Lit.int .u8 n).wf = true) (hl : bs.length ≤ 1048576) (hc : bs.length ≤ c) :
    Calls Try.prog 27 #[.slice a bs.length c] w fun e w' => ∃ a' c' LL, e = .returned (.slice a' LL.length c') ∧ RdLL w' w'.heap.size a' LL ∧ LL.length ≤ 17 ∧ LL.length ≤ c' ∧ (∀ M ∈ LL, M.length ≤ 40) ∧ Below w.heap.size w w' := by
  go_enter Try.func27, Try.ntmps27
  go_wp2_with fail
  refine (newReader_any _ _ B bs _ h hB hb hl hc).mono ?_
  rintro e w1 ⟨rfl, h1, hb1, -⟩
  go_wp2_with fail
  refine (somePile_any _ 0 _ _ (by omega) h1).mono ?_
  rintro e w2 ⟨a', c', LL, rfl, hr, hl17, hcap, h40, hb2⟩
  go_wp2_with fail
  go_ret
  exact ⟨a', c', LL, rfl, hr, hl17, hcap, h40, hb1.trans hb2⟩
theorem DrawLayersOf_any (a : Option Addr) (c B : Nat) (bs : List Int) (w : World) (h : Rd w B a (bs.map (Value.int .u8))) (hB : B ≤ w.heap.size) (hb : ∀ n ∈ bs, (Lit.int .u8 n).wf = true) (hl : bs.length ≤ 1048576) (hc : bs.length ≤ c) :
    Calls Try.prog 30 #[.slice a bs.length c] w fun e w' => ∃ a' c' LL, e = .returned (.slice a' LL.length c') ∧ RdLL w' w'.heap.size a' LL ∧ LL.length ≤ 17 ∧ LL.length ≤ c' ∧ (∀ M ∈ LL, M.length ≤ 40) ∧ Below w.heap.size w w' := by
  go_enter Try.func30, Try.ntmps30
  go_wp2_with fail
  refine (newReader_any _ _ B bs _ h hB hb hl hc).mono ?_
  rintro e w1 ⟨rfl, h1, hb1, -⟩
  go_wp2_with fail
  refine (somePile_any _ 0 _ _ (by omega) h1).mono ?_
  rintro e w2 ⟨a', c', LL, rfl, hr, hl17, hcap, h40, hb2⟩
  go_wp2_with fail
  go_ret
  exact ⟨a', c', LL, rfl, hr, hl17, hcap, h40, hb1.trans hb2⟩
end Go.Proofs.Ytnheolhgdinjgaa
