/-
  Walks: the draws of two parts. Walks: the draws of parts of a kind. Walks: the draw of piles that may be their turned ones. Walks: the laws' comparison of lists of lists, whatever they are.
-/
import Derived.Test.YtnheolhgdinjgaaZe1
import Derived.Test.YtnheolhgdinjgaaZe2
import Derived.Test.YtnheolhgdinjgaaZe3
import Derived.Test.YtnheolhgdinjgaaZe4
import Derived.Test.YtnheolhgdinjgaaZe5
import Derived.Test.YtnheolhgdinjgaaZe6
import Derived.Test.YtnheolhgdinjgaaZe7
import Derived.Test.YtnheolhgdinjgaaZe8
import Derived.Deep.RegionHeld3
import Derived.Deep.QuietTactic
namespace Go.Proofs.Ytnheolhgdinjgaa
open Go.RowKit NP
set_option maxRecDepth 8000
set_option linter.unusedVariables false

theorem small_of_parts {M : List Int} (h : SmallParts M) : Small M := ⟨by have := h.1; omega, fun x hx => by have := h.2 x hx; omega⟩

end Go.Proofs.Ytnheolhgdinjgaa
namespace Go.Proofs.Ytnheolhgdinjgaa
open Go.RowKit NP
set_option maxRecDepth 8000
set_option linter.unusedVariables false
set_option linter.unusedSimpArgs false

set_option maxHeartbeats 1000000 in
theorem partsOfKind_any (g q : Nat) (bs : List Int) (s : ByteArray) (K : List Int → Bool) (hSK : SK s K) (w : World) (hq : q ≤ 800000) (h : Rdr w g bs q) :
    Calls Try.prog 54 #[.pointer (some ⟨g, 0, none⟩), .string s] w (Drawn g bs SmallParts (q + 4) w) := by
  have hlt := h.lt
  go_enter Try.func54, Try.ntmps54
  go_wp2_with fail
  refine (one_any g _ _ _ _ [6, 8, 9, 5, 10, 4, 12, 3, 1, 0] bs _ (by simp) (by simp) (by omega) (h.below ((Below.refl _ _).alloc hlt _)) (rd_new w _ _) (by intro b o e; injection e with e; injection e with e; omega)).mono ?_
  rintro e w1 ⟨k, hk, rfl, h1, hg1, -⟩
  have hx : ∀ x ∈ ([6, 8, 9, 5, 10, 4, 12, 3, 1, 0] : List Int), 0 ≤ x ∧ x ≤ 12 := by decide
  have hx1 := hx _ (List.getElem_mem hk)
  obtain ⟨x, hxx⟩ : ∃ x, x = ([6, 8, 9, 5, 10, 4, 12, 3, 1, 0] : List Int)[k] := ⟨_, rfl⟩
  rw [← hxx] at hx1 ⊢
  clear hx hxx hk h
  obtain ⟨n, rfl⟩ := Int.eq_ofNat_of_zero_le hx1.1
  have hG1 := chg_trans (World.grownBy_alloc w (.cells (ints [6, 8, 9, 5, 10, 4, 12, 3, 1, 0]).toArray 3) (some g)) hg1
  clear hg1
  go_wp2_with fail
  refine (kindList_any s K hSK n (by omega) _).mono ?_
  rintro e w2 ⟨a2, c2, us, rfl, hul, ho, hin, hb2⟩
  have h2 := h1.below (hb2.mono h1.lt)
  have hG2 := chg_below hG1 (hb2.mono hG1.size)
  have hz1 := hG1.size
  have hz2 := hG2.size
  clear h1 hG1 hb2 hx1
  by_cases h0 : us.length = 0
  · have b0 : ((us.length : Int) == 0) = true := beq_iff_eq.2 (by omega)
    clear ho hin
    go_wp2_with fail
    go_ret
    exact ⟨_, _, [], rfl, ((Own.empty w2 3).lower hz2).more, ⟨by simp, by simp⟩, ⟨q + 1, by omega, h2.below ((Below.refl _ _).alloc h2.lt _)⟩, chg_alloc hG2 _⟩
  · have b0 : ((us.length : Int) == 0) = false := beq_eq_false_iff_ne.2 (by omega)
    have HO := Lib.hid ho
    have HIN := Lib.hid hin
    clear ho hin
    go_wp2_with fail
    refine (pick_any g _ _ bs _ (by omega) (by omega) h2).mono ?_
    rintro e w3 ⟨y, rfl, hy0, hy1, h3, hg3, -⟩
    obtain ⟨j, rfl⟩ := Int.eq_ofNat_of_zero_le hy0
    have hj : j < us.length := by have := hy1 (by omega); omega
    have hlt2 : g < w1.heap.size := by omega
    have HO3 := Lib.hid (HO.out.chg hg3 hlt2).more
    obtain ⟨M, hs, hM⟩ := HIN.out _ (List.getElem_mem hj)
    obtain ⟨gA, cA, hv, hlo, hhi, hc, -⟩ := HO3.out.at_ hj
    have hM3 := (hM.chg hg3 hlt2).more
    obtain ⟨aM, cM, hf⟩ := hM3.form
    rw [List.length_map] at hf
    rw [hf] at hM3 hc
    injection hv with hv _ _
    subst hv
    have HM := Lib.hid (hM3.lower hz1)
    have HS := Lib.hid hs
    have hG3 := chg_trans hG2 hg3
    clear hM hM3 hf hG2 hg3 h2 hs
    go_wp2_with fail
    go_ret
    exact ⟨aM, cM, M, rfl, HM.out, HS.out, ⟨_, by omega, h3⟩, hG3⟩




end Go.Proofs.Ytnheolhgdinjgaa
namespace Go.Proofs.Ytnheolhgdinjgaa
open Go.RowKit NP
set_option maxRecDepth 100000
set_option linter.unusedVariables false
set_option linter.unusedSimpArgs false
set_option maxHeartbeats 1000000 in
theorem ones_any (n : Nat) (hn : n ≤ 16) (w : World) :
    Calls Try.prog 55 #[.int .i64 (n : Int)] w fun e w' => ∃ a' c' R, e = .returned (.slice a' R.length c') ∧ R.length ≤ 16 ∧ Own w' w.heap.size w'.heap.size 3 (.slice a' R.length c') (ints R) ∧ Below w.heap.size w w' := by
  obtain ⟨i0, hi, hz0, hz1, hz2⟩ := T_int'
  go_enter Try.func55, Try.ntmps55
  go_wp2_with fail
  go_loopw [3] (fun v wr => ∃ (M : List Int), M.length ≤ n ∧ Below w.heap.size w wr ∧ Own wr w.heap.size wr.heap.size 3 v (ints M)) (fun v _ => 40 - (match v with | .slice _ k _ => k | _ => 0))
  case atStart => exact ⟨[], Nat.zero_le _, (Below.refl _ _).alloc (Nat.le_refl _) _, (Own.empty w 3).more⟩
  case round =>
    obtain ⟨M, hk, hbel, hown⟩ := hrel
    obtain ⟨a1, c1, rfl⟩ := hown.form
    rw [List.length_map] at hown ⊢
    have HO := Lib.hid hown
    have hM16 : M.length ≤ 16 := by omega
    have hbs := hbel.size
    clear hown
    by_cases hlt : M.length < n
    · have hlt' : (M.length : Int) < (n : Int) := by omega
      obtain ⟨vs, hvs⟩ : ∃ vs, vs = ints M := ⟨_, rfl⟩
      have hvl2 : vs.length ≤ 16 := by rw [hvs, List.length_map]; omega
      rw [← hvs] at HO
      have HVS := Lib.hid hvs
      clear hvs
      go_wp2_with (at_builtin; refine wpList_append_o _ rfl (.tmp 9) (.tmp 10) 31 rfl w.heap.size wr.heap.size 3 i0 (.int .i64 0) 8 Try.underlying31 hi hz0 hz1 hz2 rfl _ vs rfl (HO.out.alloc _) (wr.heap.size + 1) (some ⟨wr.heap.size, 0, none⟩) 1 1 [.int .i64 1] rfl (Rd.one _ _ _) rfl (by simp; rfl) (by unfold maxLen; omega) (by omega) (by simp; omega) ?_; intro v' w1 ho1 hg1 hat1)
      go_roundw
      case rel =>
        have ho2 := ho1
        rw [HVS.out] at ho2
        exact ⟨M ++ [1], by simp; omega, below_push hbel (Nat.le_refl _) hg1 HO.out.base, by simpa [ints] using ho2⟩
      case measure =>
        obtain ⟨a2, c2, rfl⟩ := ho1.form
        have : vs.length = M.length := by rw [HVS.out, List.length_map]
        simp
        omega
    · have hge : ¬ (M.length : Int) < (n : Int) := by omega
      go_wp2_with fail
      go_ret
      exact ⟨a1, c1, M, rfl, hM16, HO.out, hbel⟩
set_option maxHeartbeats 2000000 in
theorem DrawIsEvenPile_any (a : Option Addr) (c B : Nat) (bs : List Int) (w : World) (h : Rd w B a (bs.map (Value.int .u8))) (hB : B ≤ w.heap.size) (hb : ∀ n ∈ bs, (Lit.int .u8 n).wf = true) (hl : bs.length ≤ 1048576) (hc : bs.length ≤ c) :
    Calls Try.prog 34 #[.slice a bs.length c] w fun e w' => ∃ a' c' LL, e = .returned (.slice a' LL.length c') ∧ RdLL w' w'.heap.size a' LL ∧ LL.length ≤ 17 ∧ LL.length ≤ c' ∧ (∀ M ∈ LL, M.length ≤ 40) ∧ Below w.heap.size w w' := by
  obtain ⟨i1, hj, hy0, hy1, hy2⟩ := info_parts T_intsD
  go_enter Try.func34, Try.ntmps34
  go_wp2_with fail
  refine (newReader_any _ _ B bs _ h hB hb hl hc).mono ?_
  rintro e w1 ⟨rfl, h1, hb1, hz1⟩
  clear h hB hb hl hc
  go_wp2_with fail
  refine (pick_any _ _ 2 _ _ (by omega) (by omega) h1).mono ?_
  rintro e w2 ⟨y, rfl, hp0, hp1, h2, hg2, hz2⟩
  have hA2 := hb1.trans (below_of_chg hg2 (by omega))
  clear h1 hg2 hp1 hb1
  by_cases y0 : y = 0
  · have b0 : (y == 0) = true := beq_iff_eq.2 y0
    clear y0
    go_wp2_with fail
    refine (partsOfKind_any w.heap.size _ _ ⟨#[115, 101, 108, 102]⟩ _ sk_self _ (by omega) h2).mono ?_
    rintro e w3 ⟨aM, cM, M, rfl, hoM, hsM, -, hg3⟩
    have hA3 := hA2.trans (below_of_chg hg3 (by omega))
    have hz3 := hA3.size
    have hM16 := hsM.1
    have HSM := Lib.hid hsM.2
    have HOM := Lib.hid hoM
    clear hg3 hA2 hsM hoM h2
    have hA4 : Below w.heap.size w (w3.alloc (.cells #[] 31)) := hA3.alloc hz3 _
    go_wp2_with fail
    go_loopw [5, 6] (fun v i wr => ∃ (k : Nat) (us : List Value) (LL : List (List Int)), k ≤ M.length ∧ i = .int .i64 (k : Int) ∧ us.length = k ∧ LL.length = k ∧ (∀ X ∈ LL, X.length ≤ 40) ∧ Below w3.heap.size w3 wr ∧ OwnLL wr w3.heap.size wr.heap.size 31 3 v us LL) (fun _ i _ => 40 - (intOf i).toNat)
    case atStart => exact ⟨0, [], [], Nat.zero_le _, rfl, rfl, rfl, by simp, (Below.refl _ _).alloc (Nat.le_refl _) _, (OwnLL.empty w3 31 3).more⟩
    case round =>
      obtain ⟨k, us, LL, hk, rfl, hul, hll, h40, hbr, hLL⟩ := hrel
      have hzr := hbr.size
      have H40 := Lib.hid h40
      have HLL := Lib.hid hLL
      obtain ⟨aO, cO, rfl⟩ := hLL.form
      have hul16 : us.length ≤ 16 := by omega
      clear h40 hLL hA4
      by_cases hlt : k < M.length
      · have hlt' : (k : Int) < (M.length : Int) := by omega
        have hx := HSM.out _ (List.getElem_mem hlt)
        obtain ⟨b1, o1, rfl, -, hc1⟩ := (HOM.out.rd.below (hbr.mono HOM.out.le)).at_ hlt
        generalize M[k] = x at hc1 hx
        obtain ⟨n, rfl⟩ := Int.eq_ofNat_of_zero_le (show 0 ≤ x by omega)
        have hn : n ≤ 16 := by omega
        have HUK := Lib.hid hul
        have HLK := Lib.hid hll
        clear hx hul hll
        go_wp2_with fail
        refine (ones_any n hn wr).mono ?_
        rintro e w5 ⟨aR, cR, R, rfl, hRl, hoR, hb5⟩
        have HR5 := Lib.hid hoR
        have HL5 := Lib.hid (HLL.out.below hb5)
        have hz5 := hb5.size
        have hb53 := hbr.trans (hb5.mono hzr)
        have HUL := Lib.hid HLL.out.len
        clear hoR hb5
        go_wp2_with (at_builtin; refine wpList_append_o _ rfl (.tmp 21) (.tmp 27) 22 rfl w3.heap.size w5.heap.size 31 i1 (.slice none 0 0) 24 Try.underlying22 hj hy0 hy1 hy2 rfl _ us rfl (HL5.out.outer.more.alloc _) (w5.heap.size + 1) (some ⟨w5.heap.size, 0, none⟩) 1 1 [.slice aR R.length cR] rfl (Rd.one w5 _ _) rfl (by intro u hu; rw [List.mem_singleton.1 hu]; rfl) (by unfold maxLen; omega) (by omega) (by rw [World.size_alloc]; omega) ?_; intro v' w6 ho6 hg6 hat6)
        go_roundw
        case rel =>
          have e1 : OwnLL (w5.alloc (.cells #[.slice aR R.length cR] 31)) w3.heap.size wr.heap.size 31 3 (.slice aO LL.length cO) us LL := HL5.out.below ((Below.refl _ _).alloc hz5 _)
          have hbf := below_push hb53 (Nat.le_refl _) hg6 HL5.out.outer.base
          refine ⟨k + 1, us ++ [.slice aR R.length cR], LL ++ [R], by omega, by go_num, ?_, ?_, fun X hX => ?_, hbf, ?_⟩
          · rw [List.length_append, HUK.out]; rfl
          · rw [List.length_append, HLK.out]; rfl
          · rcases List.mem_append.1 hX with h9 | h9
            · exact H40.out X h9
            · rw [List.mem_singleton.1 h9]; omega
          · exact OwnLL.append e1 (HR5.out.alloc (.cells #[.slice aR R.length cR] 31)) (Nat.le_refl _) hzr (by simpa using ho6) hg6 hat6
        case measure => simp [intOf] <;> omega
      · obtain rfl : k = M.length := by omega
        have hcap := HLL.out.outer.cap
        have hge : ¬ (M.length : Int) < (M.length : Int) := by omega
        have hl17 : LL.length ≤ 17 := by omega
        clear hul hll
        go_wp2_with fail
        go_ret
        exact ⟨aO, cO, LL, rfl, HLL.out.rd, hl17, hcap, H40.out, hA3.trans (hbr.mono hz3)⟩
  · have b0 : (y == 0) = false := beq_eq_false_iff_ne.2 y0
    clear y0
    go_wp2_with fail
    refine (somePile_any _ _ _ _ (by omega) h2).mono ?_
    rintro e w3 ⟨a', c', LL, rfl, hr, hl17, hcap, h40, hb2⟩
    go_wp2_with fail
    go_ret
    exact ⟨a', c', LL, rfl, hr, hl17, hcap, h40, hA2.trans hb2⟩
end Go.Proofs.Ytnheolhgdinjgaa
namespace Go.Proofs.Ytnheolhgdinjgaa
open Go.RowKit NP
set_option maxRecDepth 100000
set_option linter.unusedVariables false
set_option linter.unusedSimpArgs false
theorem ll_ext {A B : List (List Int)} (hl : A.length = B.length) (h : A.take A.length = B.take A.length) : A = B := by
  rw [List.take_of_length_le (Nat.le_refl _), List.take_of_length_le (by omega)] at h
  exact h
theorem equalLists_any (a b : Option Addr) (ca cb Ba Bb : Nat) (A B : List (List Int)) (w : World) (h : RdLL w Ba a A) (hm : RdLL w Bb b B) (hl : A.length ≤ 4611686018427387904) (hl2 : B.length ≤ 4611686018427387904) (hil : ∀ L ∈ A, L.length ≤ 4611686018427387904) (hil2 : ∀ L ∈ B, L.length ≤ 4611686018427387904) :
    Calls Try.prog 28 #[.slice a A.length ca, .slice b B.length cb] w fun e w' => e = .returned (.bool (decide (A = B))) ∧ Dr w w' := by
  by_cases hlen : A.length = B.length
  · have hne : ((A.length : Int) != (B.length : Int)) = false := by simp [hlen]
    have HL := Lib.hid hlen
    clear hlen
    go_enter Try.func28, Try.ntmps28
    go_wp2
    go_loopw [5] (fun i wr => ∃ k : Nat, k ≤ A.length ∧ i = .int .i64 k ∧ Dr w wr ∧ Hid (A.take k = B.take k)) (fun i _ => A.length - (intOf i).toNat)
    case atStart => exact ⟨0, Nat.zero_le _, rfl, Dr.refl _, Lib.hid rfl⟩
    case round =>
      obtain ⟨k, hk, rfl, hdr, HT⟩ := hrel
      by_cases hlt : k < A.length
      · have hlt2 : k < B.length := by have := HL.out; omega
        have hlti : (k : Int) < (A.length : Int) := by omega
        have hlti2 : (k : Int) < (B.length : Int) := by omega
        obtain ⟨b1, o1, a1, c1, rfl, -, hc1, hr1, -⟩ := (h.dr hdr).at_ hlt
        obtain ⟨b2, o2, a2, c2, rfl, -, hc2, hr2, -⟩ := (hm.dr hdr).at_ hlt2
        have hil1 := hil A[k] (List.getElem_mem hlt)
        have hil22 := hil2 B[k] (List.getElem_mem hlt2)
        have HS1 := Lib.hid (List.take_succ_eq_append_getElem hlt)
        have HS2 := Lib.hid (List.take_succ_eq_append_getElem hlt2)
        have HNE : Hid (A[k] ≠ B[k] → A ≠ B) := Lib.hid (fun h9 e => h9 (by subst e; rfl))
        generalize A[k] = M at hc1 hr1 hil1 HS1 HNE
        generalize B[k] = N at hc2 hr2 hil22 HS2 HNE
        by_cases hx : M = N
        · subst hx
          go_wp2_with fail
          go_region_held3 (fun w' => w'.cell? ⟨b1, o1 + k, none⟩ = some (.slice a1 M.length c1) ∧ w'.cell? ⟨b2, o2 + k, none⟩ = some (.slice a2 M.length c2) ∧ Dr wr w') (first | exact ⟨hc1, hc2, Dr.n wr 1⟩ | exact keepD2 (by assumption) (by assumption) (Dr.n wr 1) hd)
            (first | (go_at_call 49; refine (equalInts_same a1 a2 c1 c2 Ba Bb M _ (hr1.dr (Dr.n wr 1)) (hr2.dr (Dr.n wr 1)) hil1).mono ?_; rintro e w' ⟨rfl, hd⟩))
          have hdw : Dr wr w' := by obtain ⟨n, rfl⟩ := hd; exact (Dr.n wr 1).drewN n
          go_wp2_with fail
          go_roundw
          case rel => exact ⟨k + 1, by omega, by go_num, by obtain ⟨n, rfl⟩ := hdw; exact hdr.drewN n, Lib.hid (by rw [HS1.out, HS2.out, HT.out])⟩
          case measure => simp [intOf]; omega
        · have HX := Lib.hid hx
          have HD : Hid (decide (M = N) = false) := Lib.hid (decide_eq_false hx)
          clear hx
          go_wp2_with fail
          go_region_held3 (fun w' => w'.cell? ⟨b1, o1 + k, none⟩ = some (.slice a1 M.length c1) ∧ w'.cell? ⟨b2, o2 + k, none⟩ = some (.slice a2 N.length c2) ∧ Dr wr w') (first | exact ⟨hc1, hc2, Dr.n wr 1⟩ | exact keepD2 (by assumption) (by assumption) (Dr.n wr 1) hd)
            (first | (go_at_call 49; refine (equalInts_any a1 a2 c1 c2 Ba Bb M N _ (hr1.dr (Dr.n wr 1)) (hr2.dr (Dr.n wr 1)) hil1 hil22).mono ?_; rintro e w' ⟨rfl, hd⟩; rw [HD.out]))
          have hdw : Dr wr w' := by obtain ⟨n, rfl⟩ := hd; exact (Dr.n wr 1).drewN n
          go_wp2_with fail
          go_ret
          exact ⟨ret_bool (by rw [decide_eq_false (HNE.out HX.out)]), by obtain ⟨n, rfl⟩ := hdw; exact hdr.drewN n⟩
      · obtain rfl : k = A.length := by omega
        go_wp2
        go_ret
        exact ⟨ret_bool (by rw [decide_eq_true (ll_ext HL.out HT.out)]), hdr⟩
  · have hne : ((A.length : Int) != (B.length : Int)) = true := by simp; omega
    have HL := Lib.hid hlen
    clear hlen
    go_enter Try.func28, Try.ntmps28
    go_wp2
    go_ret
    exact ⟨ret_bool (by rw [decide_eq_false (fun e => HL.out (by rw [e]))]), Dr.refl _⟩
end Go.Proofs.Ytnheolhgdinjgaa
