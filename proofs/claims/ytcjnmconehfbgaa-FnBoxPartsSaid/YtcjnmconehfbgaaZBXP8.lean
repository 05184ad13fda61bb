/-
  Walks of the model: kinds of parts; stairs. Walks: the model's kind at three names, its list of the parts of a kind. Walks: the model's parts in a box. Walks: draws of boxes. Walks: the draws of two sides, how many ways to choose. Walks: parts in a box, by the program. Plain mathematics: the parts in a box counted by their sums, by tables. Walks: the laws' comparison of lists of lists, whatever they are.
-/
import Derived.Test.YtcjnmconehfbgaaZBXP1
import Derived.Test.YtcjnmconehfbgaaZBXP2
import Derived.Test.YtcjnmconehfbgaaZBXP3
import Derived.Test.YtcjnmconehfbgaaZBXP4
import Derived.Test.YtcjnmconehfbgaaZBXP5
import Derived.Test.YtcjnmconehfbgaaZBXP6
import Derived.Test.YtcjnmconehfbgaaZBXP7
import Derived.OwnWalk
import Derived.RegionTactic
import Derived.Deep.RegionHeld3
import Derived.Deep.QuietTactic
namespace Go.Proofs.Ytcjnmconehfbgaa
open Go.RowKit NP
set_option maxRecDepth 8000
set_option linter.unusedVariables false
set_option linter.unusedSimpArgs false





end Go.Proofs.Ytcjnmconehfbgaa
namespace Go.Proofs.Ytcjnmconehfbgaa
open Go.RowKit NP
set_option maxRecDepth 8000
set_option linter.unusedVariables false
set_option linter.unusedSimpArgs false
theorem OwnLL.keep {w w' : World} {lo hi : Nat} {eo e : TypeId} {v : Value} {vs : List Value} {LL : List (List Int)} (h : OwnLL w lo hi eo e v vs LL) (hs : w.heap.size ≤ w'.heap.size) (hk : ∀ g, lo ≤ g → g < hi → w'.heap[g]? = w.heap[g]?) : OwnLL w' lo hi eo e v vs LL :=
  ⟨h.outer.keep hs fun g hg => hk g (h.outer.base g hg) (h.outer.lt g hg), h.len, fun k u L hu hL => (h.inner k u L hu hL).keep hs fun g hg => hk g ((h.inner k u L hu hL).base g hg) ((h.inner k u L hu hL).lt g hg), h.apartO, h.apart⟩
def okQ (L : List Int) : Bool := valid L && decide (L.length ≤ 16) && L.all fun x => decide (1 ≤ x) && decide (x ≤ 16)
def okTab : Bool := (List.range 13).all fun n => (allQ n n n).all okQ
set_option maxRecDepth 100000 in
theorem okTab_all : okTab = true := by decide +kernel
theorem allQ_ok {n : Nat} (hn : n ≤ 12) : ∀ L ∈ allQ n n n, valid L = true ∧ SmallParts L := by
  intro L hL
  have h := okTab_all
  unfold okTab at h
  have h1 := List.all_eq_true.1 h n (by simp; omega)
  have h2 := List.all_eq_true.1 h1 L hL
  unfold okQ at h2
  simp only [Bool.and_eq_true, decide_eq_true_eq, List.all_eq_true] at h2
  exact ⟨h2.1.1, h2.1.2, h2.2⟩

/-- what lies between lo and the end of w2 is the same in w' -/
def Kp (w2 w' : World) (lo : Nat) : Prop := w2.heap.size ≤ w'.heap.size ∧ ∀ g, lo ≤ g → g < w2.heap.size → w'.heap[g]? = w2.heap[g]?
theorem Kp.below {w2 w w' : World} {lo : Nat} (h : Kp w2 w lo) (hb : Below w.heap.size w w') : Kp w2 w' lo :=
  ⟨Nat.le_trans h.1 hb.size, fun g h1 h2 => (hb.block g (Nat.lt_of_lt_of_le h2 h.1)).trans (h.2 g h1 h2)⟩
theorem Kp.alloc {w2 w : World} {lo : Nat} (h : Kp w2 w lo) (o : Obj) : Kp w2 (w.alloc o) lo :=
  h.below ((Below.refl _ _).alloc (Nat.le_refl _) o)
theorem Kp.grown {w2 w w' : World} {lo : Nat} {row : Option Nat} (h : Kp w2 w lo) (hg : w.grownBy w' row) (hr : ∀ g, row = some g → g < lo ∨ w2.heap.size ≤ g) : Kp w2 w' lo :=
  ⟨Nat.le_trans h.1 hg.size, fun g h1 h2 => (hg.block g (Nat.lt_of_lt_of_le h2 h.1) (fun e => by have := hr g e.symm; omega)).trans (h.2 g h1 h2)⟩
end Go.Proofs.Ytcjnmconehfbgaa
namespace Go.Proofs.Ytcjnmconehfbgaa
open Go.RowKit NP
set_option maxRecDepth 8000
set_option linter.unusedVariables false
set_option linter.unusedSimpArgs false
theorem BPL_next (a b k : Nat) : BPL a b (k + 1) = BPL a b k ++ LB a b k := by unfold BPL; rw [List.range_succ, List.flatMap_append]; simp
set_option maxRecDepth 100000 in
set_option maxHeartbeats 4000000 in
theorem sBoxParts_any (a b : Int) (w : World) :
    Calls Try.prog 31 #[.int .i64 a, .int .i64 b] w fun e w' => ∃ a' c' us, e = .returned (.slice a' (bpF a b).length c') ∧ OwnLL w' w.heap.size w'.heap.size 22 3 (.slice a' (bpF a b).length c') us (bpF a b) ∧ Below w.heap.size w w' := by
  cases h : limB a b with
  | false =>
    rw [bpF_no h]
    go_enter Try.func31, Try.ntmps31
    go_wp2_with (go_at_call 55; refine (validBox_any a b _).mono ?_; rintro e wv ⟨rfl, rfl⟩; rw [h])
    go_ret
    exact ⟨none, 0, [], rfl, OwnLL.nil _ _ _ _, Below.refl _ _⟩
  | true =>
    obtain ⟨i1, hj, hy0, hy1, hy2⟩ := info_parts T_ints2
    obtain ⟨m, n, rfl, rfl, hm, hn⟩ := limB_nat h
    obtain ⟨hrow0, -⟩ := bp_row hm hn
    rw [bpF_yes h]
    have hmn := Nat.mul_le_mul hm hn
    obtain ⟨p, hp⟩ : ∃ p, m * n = p := ⟨_, rfl⟩
    have hpi : (m : Int) * (n : Int) = (p : Int) := by rw [← Int.natCast_mul, hp]
    rw [hp] at hmn hrow0 ⊢
    have hw1' : wrap64 (p : Int) = (p : Int) := IntWalk.wrap64_in _ (by omega)
    have hw2' : IntKind.i64.wrap (p : Int) = (p : Int) := IntWalk.i64_in _ (by omega)
    have HROW := Lib.hid hrow0
    clear hp hrow0
    have hE := OwnLL.empty w 22 3
    obtain ⟨w1, hw1⟩ : ∃ w1, w1 = w.alloc (.cells #[] 22) := ⟨_, rfl⟩
    have hb1 : Below w.heap.size w w1 := hw1 ▸ (Below.refl _ _).alloc (Nat.le_refl _) _
    have HW1 := Lib.hid hw1
    rw [← hw1] at hE
    clear hw1
    go_enter Try.func31, Try.ntmps31
    go_wp2_with (go_at_call 55; refine (validBox_any m n _).mono ?_; rintro e wv ⟨rfl, rfl⟩; rw [h])
    rw [← HW1.out]
    go_loopw [5, 6] (fun v ii wr => ∃ (k : Nat) (us : List Value), ii = .int .i64 (k : Int) ∧ k ≤ p + 1 ∧ us.length ≤ 1000 * k ∧ OwnLL wr w.heap.size wr.heap.size 22 3 v us (BPL m n k) ∧ Below w.heap.size w wr) (fun _ ii _ => p + 1 - (intOf ii).toNat)
    case atStart => exact ⟨0, [], rfl, Nat.zero_le _, Nat.zero_le _, by simpa [BPL] using hE.more, hb1⟩
    case round =>
      obtain ⟨k, us0, rfl, hkp1, hul, ho0, hbel0⟩ := hrel
      by_cases hkp : k ≤ p
      · have hkp' : (k : Int) ≤ (p : Int) := by omega
        obtain ⟨wo, rfl⟩ : ∃ wx : World, wx = wr := ⟨_, rfl⟩
        obtain ⟨a0, c0, rfl⟩ := ho0.form
        obtain ⟨hrw, hl400⟩ := HROW.out k hkp
        obtain ⟨wa, hwa⟩ : ∃ wa, wa = wo.alloc (.cells #[] 3) := ⟨_, rfl⟩
        have hza : wa.heap.size = wo.heap.size + 1 := by rw [hwa, World.size_alloc]
        have hba : Below wo.heap.size wo wa := hwa ▸ (Below.refl _ _).alloc (Nat.le_refl _) _
        have hzr := hbel0.size
        have HWA := Lib.hid hwa
        obtain ⟨LL, hLL⟩ : ∃ LL, LL = allQ k k n := ⟨_, rfl⟩
        rw [← hLL] at hl400
        have hrw2 : LL.filter (fun L => decide ((L.length : Int) ≤ (m : Int))) = LB m n k := by rw [hLL]; exact hrw
        have HRW := Lib.hid hrw2
        have HL := Lib.hid hLL
        have HBN := Lib.hid (BPL_next m n k)
        have HO0 := Lib.hid ho0
        clear hwa hLL hrw hrw2 ho0
        go_wp2_with fail
        rw [← HWA.out]
        refine (slist_lists k (by omega) k _ 0 wa.heap.size [] n _ (Nat.le_refl _) (by simp; omega) (by omega) (fun h => absurd rfl h) (Nat.le_refl _)).mono ?_
        rintro e w2 ⟨a6, c6, vs, rfl, h6, hb2⟩
        rw [show List.map (fun x => [] ++ x) (allQ k k n) = allQ k k n from by simp, ← HL.out] at h6
        rw [← HL.out]
        have HALL := Lib.hid (h6.lower (show wo.heap.size ≤ wa.heap.size by omega))
        clear h6
        have hz2 := hb2.size
        have hb2r : Below wo.heap.size wo w2 := hba.trans (hb2.mono (by omega))
        have hO2 : OwnLL w2 w.heap.size wo.heap.size 22 3 (.slice a0 (BPL m n k).length c0) us0 (BPL m n k) := HO0.out.below hb2r
        have hU0 : ∀ u ∈ us0, ∀ g, u.ownBlock = some g → g < wo.heap.size := fun u hu g hg => by
          obtain ⟨j, hj, rfl⟩ := List.getElem_of_mem hu
          have hjl : j < (BPL m n k).length := by rw [← hO2.len]; exact hj
          exact (hO2.inner j _ _ (List.getElem?_eq_getElem hj) (List.getElem?_eq_getElem hjl)).lt g hg
        have hV0 : ∀ g, (Value.slice a0 (BPL m n k).length c0).ownBlock = some g → g < wo.heap.size := fun g hg => hO2.outer.lt g hg
        have hbw2 : Below w.heap.size w w2 := hbel0.trans (hb2r.mono hzr)
        clear hba hb2 hb2r HO0
        go_wp2_with fail
        go_loopw [5, 8] (fun v ii wr => ∃ (i : Nat) (us : List Value), ii = .int .i64 (i : Int) ∧ i ≤ LL.length ∧ us.length ≤ 1000 * k + i ∧ OwnLL wr w.heap.size wr.heap.size 22 3 v us (BPL m n k ++ (LL.take i).filter (fun L => decide ((L.length : Int) ≤ (m : Int)))) ∧ (∀ g, v.ownBlock = some g → g < wo.heap.size ∨ w2.heap.size ≤ g) ∧ (∀ u ∈ us, (∀ g, u.ownBlock = some g → g < wo.heap.size) ∨ ∃ j, j < i ∧ vs[j]? = some u) ∧ Kp w2 wr wo.heap.size ∧ Below w.heap.size w wr) (fun _ ii _ => LL.length - (intOf ii).toNat)
        case atStart => exact ⟨0, us0, rfl, Nat.zero_le _, by omega, by simpa using hO2.more, fun g hg => .inl (hV0 g hg), fun u hu => .inl (hU0 u hu), ⟨Nat.le_refl _, fun _ _ _ => rfl⟩, hbw2⟩
        case round =>
          obtain ⟨i, us, rfl, hiN, hui, ho, hout, hmem, hkp2, hbel⟩ := hrel
          clear hO2 hbw2
          have HO := Lib.hid ho
          clear ho
          by_cases hlt : i < LL.length
          · have hlt' : (i : Int) < (LL.length : Int) := by omega
            have HAL := Lib.hid (HALL.out.keep hkp2.1 hkp2.2)
            obtain ⟨gA, aM, cM, rfl, hgl, hgh, hcell, hoM, hvk⟩ := HAL.out.at_ hlt
            have HT := Lib.hid (show (LL.take (i + 1)).filter (fun L => decide ((L.length : Int) ≤ (m : Int))) = (LL.take i).filter (fun L => decide ((L.length : Int) ≤ (m : Int))) ++ [LL[i]].filter (fun L => decide ((L.length : Int) ≤ (m : Int))) by rw [List.take_succ_eq_append_getElem hlt, List.filter_append])
            obtain ⟨M, hM⟩ : ∃ M, M = LL[i] := ⟨_, rfl⟩
            rw [← hM] at hcell hoM hvk HT
            have HOM := Lib.hid hoM
            have HVK := Lib.hid hvk
            have hkz := hkp2.1
            clear hM hoM hvk
            by_cases hle : M.length ≤ m
            · have HF : Hid ([M].filter (fun L => decide ((L.length : Int) ≤ (m : Int))) = [M]) := Lib.hid (by simp [hle])
              go_wp2_with (at_builtin; refine wpList_append_o _ rfl (.tmp 38) (.tmp 43) 36 rfl w.heap.size wr.heap.size 22 i1 (.slice none 0 0) 24 Try.underlying36 hj hy0 hy1 hy2 rfl _ us rfl (HO.out.outer.more.alloc _) (wr.heap.size + 1) (some ⟨wr.heap.size, 0, none⟩) 1 1 [.slice aM M.length cM] rfl (Rd.one wr _ _) rfl (by intro u hu; rw [List.mem_singleton.1 hu]; rfl) (by unfold maxLen; omega) (by omega) (by rw [World.size_alloc]; have := hbel.size; omega) ?_; intro v' w6 ho6 hg6 hat6)
              go_roundw
              case rel =>
                have hrow := HO.out.outer.base
                have hvn : ∀ g, v'.ownBlock = some g → g < wo.heap.size ∨ w2.heap.size ≤ g := fun g hg => by
                  rcases hat6 with e | e
                  · exact hout g (e ▸ hg)
                  · rw [e] at hg
                    cases hg
                    right
                    rw [World.size_alloc]
                    omega
                have hAlo : ∀ (j : Nat) x g, vs[j]? = some x → x.ownBlock = some g → wo.heap.size ≤ g ∧ g < w2.heap.size := fun j x g hx hg => by
                  have hjl := (List.getElem?_eq_some_iff.1 hx).1
                  have hjL : j < LL.length := by rw [← HALL.out.len]; exact hjl
                  have hin := HALL.out.inner j x LL[j] hx (List.getElem?_eq_getElem hjL)
                  exact ⟨hin.base g hg, hin.lt g hg⟩
                have hOM6 : Own w6 w.heap.size w6.heap.size 3 (.slice aM M.length cM) (ints M) := by
                  have h3 := HOM.out.more.alloc (.cells #[.slice aM M.length cM] 22)
                  refine ((h3.grown hg6 ?_).more).lower (by omega)
                  cases hb : (Value.slice aM M.length cM).ownBlock with
                  | none => exact .inl rfl
                  | some g =>
                    refine .inr fun e => ?_
                    have h4 := hAlo i _ g HVK.out hb
                    have h5 := hout g e.symm
                    omega
                have hstep : OwnLL w6 w.heap.size w6.heap.size 22 3 v' (us ++ [.slice aM M.length cM]) (BPL m n k ++ (LL.take i).filter (fun L => decide ((L.length : Int) ≤ (m : Int))) ++ [M]) := by
                  refine HO.out.push (by simpa using ho6) (fun k x L hx hL => ?_) hOM6 (fun g hg e => ?_) (fun q x g hx hg => ?_)
                  · have hk := HO.out.inner k x L hx hL
                    refine ((hk.more.alloc (.cells #[.slice aM M.length cM] 22)).grown hg6 ?_).more
                    cases hb : x.ownBlock with
                    | none => exact .inl rfl
                    | some g => exact .inr fun e => HO.out.apartO k x g hx hb e.symm
                  · have h4 := hAlo i _ g HVK.out hg
                    have h5 := hvn g e
                    omega
                  · have hxL : q < (BPL m n k ++ (LL.take i).filter (fun L => decide ((L.length : Int) ≤ (m : Int)))).length := by rw [← HO.out.len]; exact (List.getElem?_eq_some_iff.1 hx).1
                    have hxin := HO.out.inner q x _ hx (List.getElem?_eq_getElem hxL)
                    rcases hmem x (List.mem_of_getElem? hx) with hlow | ⟨j, hj1, hj2⟩
                    · have h4 := hlow g hg
                      refine ⟨fun e => ?_, fun e => ?_⟩
                      · rcases hat6 with e2 | e2
                        · exact HO.out.apartO q x g hx hg (e2 ▸ e)
                        · rw [e2] at e; cases e; rw [World.size_alloc] at h4; omega
                      · have := hAlo i _ g HVK.out e; omega
                    · have h4 := hAlo j x g hj2 hg
                      refine ⟨fun e => by have h5 := hvn g e; omega, fun e => ?_⟩
                      have := HALL.out.apart j i x _ g hj2 HVK.out hg e
                      omega
                refine ⟨i + 1, us ++ [.slice aM M.length cM], by go_num, by omega, by simp; omega, ?_, hvn, fun u hu => ?_, (hkp2.alloc _).grown hg6 (fun g hg => by have := hout g hg; omega), below_push hbel (Nat.le_refl _) hg6 hrow⟩
                · rw [HT.out, HF.out, ← List.append_assoc]
                  exact hstep
                · rcases List.mem_append.1 hu with h | h
                  · rcases hmem u h with h1 | ⟨j, h1, h2⟩
                    · exact .inl h1
                    · exact .inr ⟨j, by omega, h2⟩
                  · rw [List.mem_singleton.1 h]; exact .inr ⟨i, by omega, HVK.out⟩
              case measure => simp [intOf] <;> omega
            · have HF : Hid ([M].filter (fun L => decide ((L.length : Int) ≤ (m : Int))) = []) := Lib.hid (by simp; omega)
              go_wp2_with fail
              go_roundw
              case rel =>
                refine ⟨i + 1, us, by go_num, by omega, by omega, ?_, hout, fun u hu => ?_, hkp2, hbel⟩
                · rw [HT.out, HF.out, List.append_nil]
                  exact HO.out
                · rcases hmem u hu with h1 | ⟨j, h1, h2⟩
                  · exact .inl h1
                  · exact .inr ⟨j, by omega, h2⟩
              case measure => simp [intOf] <;> omega
          · obtain rfl : i = LL.length := by omega
            have HE : Hid ((LL.take LL.length).filter (fun L => decide ((L.length : Int) ≤ (m : Int))) = LB m n k) := Lib.hid (by rw [List.take_of_length_le (Nat.le_refl _), HRW.out])
            obtain ⟨a7, c7, rfl⟩ := HO.out.outer.form
            go_wp2_with fail
            go_roundw
            case rel =>
              refine ⟨k + 1, us, by go_num, by omega, by omega, ?_, hbel⟩
              have h1 := HO.out
              rw [HE.out, ← HBN.out] at h1
              exact h1
            case measure => simp [intOf] <;> omega
      · obtain rfl : k = p + 1 := by omega
        obtain ⟨a7, c7, rfl⟩ := ho0.form
        have HO := Lib.hid ho0
        clear ho0
        go_wp2_with fail
        go_ret
        exact ⟨a7, c7, us0, rfl, HO.out, hbel0⟩
end Go.Proofs.Ytcjnmconehfbgaa
namespace Go.Proofs.Ytcjnmconehfbgaa
open Go.RowKit NP
set_option maxRecDepth 8000
set_option linter.unusedVariables false
theorem chg_low5 {B : Nat} {b c : World} {w0 : World} {g : Nat} (hb : Below B w0 b) (hB : B ≤ w0.heap.size) (hg : B ≤ g) (h : b.grownBy c (some g)) : Below B w0 c := hb.grown h (by have := hb.size; omega) fun k hk => by injection hk with hk; omega
theorem aSide_any (g q : Nat) (bs : List Int) (w : World) (hq : q ≤ 900000) (h : Rdr w g bs q) :
    Calls Try.prog 59 #[.pointer (some ⟨g, 0, none⟩)] w fun e w' => ∃ n : Int, e = .returned (.int .i64 n) ∧ (-1 ≤ n ∧ n ≤ 5) ∧ Rdr w' g bs (q + 1) ∧ w.grownBy w' (some g) := by
  have hlt := h.lt
  go_enter Try.func59, Try.ntmps59
  go_wp2_with fail
  refine (one_any g _ _ _ _ [3, 2, 4, 1, 3, 0, 5, -1] bs _ (by simp) (by simp) (by omega) (h.below ((Below.refl _ _).alloc hlt _)) (rd_new w _ _) (by intro b o e; injection e with e; injection e with e; omega)).mono ?_
  rintro e w1 ⟨k, hk, rfl, h1, hg1, -⟩
  have hx : ∀ x ∈ ([3, 2, 4, 1, 3, 0, 5, -1] : List Int), -1 ≤ x ∧ x ≤ 5 := by decide
  have hx1 := hx _ (List.getElem_mem hk)
  obtain ⟨x, hxx⟩ : ∃ x, x = ([3, 2, 4, 1, 3, 0, 5, -1] : List Int)[k] := ⟨_, rfl⟩
  rw [← hxx] at hx1 ⊢
  clear hx hxx hk h
  have hG1 := chg_trans (World.grownBy_alloc w (.cells (ints [3, 2, 4, 1, 3, 0, 5, -1]).toArray 3) (some g)) hg1
  clear hg1
  go_wp2_with fail
  go_ret
  exact ⟨x, rfl, hx1, h1, hG1⟩
end Go.Proofs.Ytcjnmconehfbgaa
namespace Go.Proofs.Ytcjnmconehfbgaa
open Go.RowKit NP
set_option maxRecDepth 8000
set_option linter.unusedVariables false
set_option linter.unusedSimpArgs false
theorem DrawBoxRow_any (a : Option Addr) (c B : Nat) (bs : List Int) (w : World) (h : Rd w B a (bs.map (Value.int .u8))) (hB : B ≤ w.heap.size) (hb : ∀ n ∈ bs, (Lit.int .u8 n).wf = true) (hl : bs.length ≤ 1048576) (hc : bs.length ≤ c) :
    Calls Try.prog 28 #[.slice a bs.length c] w fun e w' => ∃ x y : Int, e = .returned (.tuple #[.int .i64 x, .int .i64 y]) ∧ (-1000 ≤ x ∧ x ≤ 1000) ∧ (-1000 ≤ y ∧ y ≤ 1000) ∧ Below w.heap.size w w' := by
  go_enter Try.func28, Try.ntmps28
  go_wp2_with fail
  refine (newReader_any _ _ B bs _ h hB hb hl hc).mono ?_
  rintro e w1 ⟨rfl, h1, hb1, -⟩
  go_wp2_with fail
  refine (aSide_any w.heap.size 0 _ _ (by omega) h1).mono ?_
  rintro e w2 ⟨x, rfl, hx, h2, hg2⟩
  have hb2 : Below w.heap.size w w2 := chg_low2 hb1 (Nat.le_refl _) hg2
  go_wp2_with fail
  refine (aSide_any w.heap.size (0 + 1) _ _ (by omega) h2).mono ?_
  rintro e w3 ⟨y, rfl, hy, h3, hg3⟩
  have hb3 : Below w.heap.size w w3 := chg_low2 hb2 (Nat.le_refl _) hg3
  go_wp2_with fail
  go_ret2
  exact ⟨x, y, rfl, by omega, by omega, hb3⟩
theorem DrawBoxParts_any (a : Option Addr) (c B : Nat) (bs : List Int) (w : World) (h : Rd w B a (bs.map (Value.int .u8))) (hB : B ≤ w.heap.size) (hb : ∀ n ∈ bs, (Lit.int .u8 n).wf = true) (hl : bs.length ≤ 1048576) (hc : bs.length ≤ c) :
    Calls Try.prog 36 #[.slice a bs.length c] w fun e w' => ∃ x y : Int, e = .returned (.tuple #[.int .i64 x, .int .i64 y]) ∧ (-1000 ≤ x ∧ x ≤ 1000) ∧ (-1000 ≤ y ∧ y ≤ 1000) ∧ Below w.heap.size w w' := by
  go_enter Try.func36, Try.ntmps36
  go_wp2_with fail
  refine (DrawBoxRow_any _ _ B bs _ h hB hb hl hc).mono ?_
  rintro e w1 ⟨x, y, rfl, hx, hy, hb1⟩
  go_wp2_with fail
  go_ret2
  exact ⟨x, y, rfl, hx, hy, hb1⟩
theorem sum_bd1 {L : List Int} {b : Int} (h : ∀ x ∈ L, 0 ≤ x ∧ x ≤ b) (hb : 0 ≤ b) : 0 ≤ sumL L ∧ sumL L ≤ b * L.length := by
  induction L with
  | nil => simp [sumL]
  | cons x r ih =>
    have h1 := h x (by simp)
    have h2 := ih fun y hy => h y (by simp [hy])
    simp only [sumL, List.length_cons]
    have e : b * ((r.length + 1 : Nat) : Int) = b * (r.length : Int) + b := by rw [Int.natCast_add, Int.mul_add]; simp
    rw [e]
    omega
theorem fits_thou {L : List Int} (h : ∀ x ∈ L, 0 ≤ x ∧ x ≤ 1000) (hl : L.length ≤ 1000) : sumFits L := fun k hk => by
  have   := sum_bd1 (L := L.take k) (b := 1000) (fun x hx => h x (List.mem_of_mem_take hx)) (by omega)
  have e : (L.take k).length ≤ 1000 := by simp; omega
  omega
/-- the value after i steps -/
def chS (n : Nat) : Nat → Int
  | 0 => 1
  | i + 1 => (chS n i * ((n : Int) - (i : Int))).tdiv ((i : Int) + 1)
def chTab : Bool := (List.range 9).all fun n => (List.range 5).all fun i => decide (0 ≤ chS n i) && decide (chS n i ≤ 100)
theorem chTab_all : chTab = true := by decide +kernel
theorem chS_bd {n i : Nat} (hn : n ≤ 8) (hi : i ≤ 4) : 0 ≤ chS n i ∧ chS n i ≤ 100 := by
  have h := chTab_all
  unfold chTab at h
  have h1 := List.all_eq_true.1 h n (by simp; omega)
  have h2 := List.all_eq_true.1 h1 i (by simp; omega)
  simpa using h2
def gboxT : Bool := (List.range 5).all fun a => (List.range 5).all fun b => (gbox a b).reverse == gbox a b && gbox b a == gbox a b && sumL (gbox a b) == chS (a + b) a
theorem gboxT_all : gboxT = true := by decide +kernel
theorem gboxT_ok {a b : Nat} (ha : a ≤ 4) (hb : b ≤ 4) : (gbox a b).reverse = gbox a b ∧ gbox b a = gbox a b ∧ sumL (gbox a b) = chS (a + b) a := by
  have h := gboxT_all
  unfold gboxT at h
  have h1 := List.all_eq_true.1 h a (by simp; omega)
  have h2 := List.all_eq_true.1 h1 b (by simp; omega)
  simp only [Bool.and_eq_true, beq_iff_eq] at h2
  exact ⟨h2.1.1, h2.1.2, h2.2⟩
set_option maxHeartbeats 1000000 in
theorem choose_any (n k : Nat) (hn : n ≤ 8) (hk : k ≤ 4) (hkn : k ≤ n) (w : World) :
    Calls Try.prog 30 #[.int .i64 (n : Int), .int .i64 (k : Int)] w fun e w' => e = .returned (.int .i64 (chS n k)) ∧ w = w' := by
  go_enter Try.func30, Try.ntmps30
  go_wp2
  go_loop [5, 6] (fun v ii => ∃ i : Nat, i ≤ k ∧ ii = .int .i64 (i : Int) ∧ v = .int .i64 (chS n i)) (fun _ ii => k - (intOf ii).toNat)
  case atStart => exact ⟨0, Nat.zero_le _, rfl, rfl⟩
  case round =>
    obtain ⟨i, hi, rfl, rfl⟩ := hrel
    by_cases hlt : i < k
    · have hlt' : (i : Int) < (k : Int) := by omega
      have h0 := chS_bd hn (show i ≤ 4 by omega)
      have h1 := chS_bd hn (show i + 1 ≤ 4 by omega)
      have HS : Hid (chS n (i + 1) = (chS n i * ((n : Int) - (i : Int))).tdiv ((i : Int) + 1)) := Lib.hid rfl
      obtain ⟨d, hd⟩ : ∃ d : Nat, n - i = d := ⟨_, rfl⟩
      have hdi : (n : Int) - (i : Int) = (d : Int) := by omega
      rw [hdi] at HS
      obtain ⟨x, hx⟩ : ∃ x, chS n i = x := ⟨_, rfl⟩
      obtain ⟨y, hy⟩ : ∃ y, chS n (i + 1) = y := ⟨_, rfl⟩
      rw [hx] at h0 HS
      rw [hy] at h1 HS
      have hpb : 0 ≤ x * (d : Int) ∧ x * (d : Int) ≤ 100 * 8 := ⟨Int.mul_nonneg h0.1 (by omega), Int.mul_le_mul h0.2 (by omega) (by omega) (by omega)⟩
      obtain ⟨q, hq0, e1, e2, HQ⟩ : ∃ q : Int, (0 ≤ q ∧ q ≤ 800) ∧ wrap64 (x * (d : Int)) = q ∧ IntKind.i64.wrap (x * (d : Int)) = q ∧ Hid (x * (d : Int) = q) :=
        ⟨_, ⟨hpb.1, by omega⟩, IntWalk.wrap64_in _ (by omega), IntWalk.i64_in _ (by omega), Lib.hid rfl⟩
      have hyq : y = q.tdiv ((i : Int) + 1) := by rw [HS.out, HQ.out]
      have e3 : q / ((i : Int) + 1) = y := by rw [hyq, Int.tdiv_eq_ediv_of_nonneg hq0.1]
      have e4 : q.tdiv ((i : Int) + 1) = y := hyq.symm
      have hy0 := h1.1
      have hy1 := h1.2
      have HY := Lib.hid hy
      clear hpb hd hyq h0 h1 hy
      rw [hx]
      clear hx
      go_wp2_with fail
      go_round
      case rel => exact ⟨i + 1, by omega, by go_num, by rw [HY.out]⟩
      case measure => simp [intOf]; omega
    · obtain rfl : i = k := by omega
      go_wp2_with fail
      go_ret
      exact ⟨rfl, rfl⟩
theorem choose_ab (a b : Nat) (ha : a ≤ 4) (hb : b ≤ 4) (w : World) :
    Calls Try.prog 30 #[.int .i64 ((a : Int) + (b : Int)), .int .i64 (a : Int)] w fun e w' => e = .returned (.int .i64 (chS (a + b) a)) ∧ w = w' := by
  have := choose_any (a + b) a (by omega) ha (by omega) w
  rwa [Int.natCast_add] at this
end Go.Proofs.Ytcjnmconehfbgaa
namespace Go.Proofs.Ytcjnmconehfbgaa
open Go.RowKit NP
set_option maxRecDepth 8000
set_option linter.unusedVariables false
set_option linter.unusedSimpArgs false
def inbF (L : List Int) (a b : Int) : Bool := valid L && (limB a b && decide ((L.length : Int) ≤ a ∧ L.headD 0 ≤ b))
theorem oper_store_row {P : Program} {o : Oper} {a : Act} {w : World} {K : Act → World → Prop} {Q : Exit → Act → World → Prop} (ty : TypeId) (x v : Operand) (ho : o.op = .store ty x v)
    (g : Nat) (hx : a.eval x = .pointer (some ⟨g, 0, none⟩)) (vs : Array Value) (hv : a.eval v = .agg vs) (t : TypeId) (cs : Array Value) (hg : Blk w g t cs)
    (hi : (P.info? ty).map (·.size) = some vs.size) (hs : vs.size = cs.size) (h1 : ∀ v ∈ vs.toList, v.oneCell' = true)
    (h : K (a.put o.dst undef) (w.setRow g vs)) : Oper.wp P o a w K Q := by
  unfold Oper.wp execOp
  simp only [ho, hx, hv, Instr.storeAt, Instr.sureAddr, Sem.run_bind, Sem.run_pure, Result.andThen_ok, run_storeVar_row w g t ty cs vs hg hi hs h1]
  exact h
theorem results_2blk2_tmp {P : Program} {fn : Func} {p1 p2 q : Tmp} {ty ty2 : TypeId} (h : fn.results = #[.cell p1 ty, .cell p2 ty2, .tmp q]) (tmps : Array Value) (w : World) (g1 g2 : Nat) (t t2 : TypeId) (c1 c2 : Array Value) (d d2 : TypeDesc)
    (hp1 : tmps.getD p1 undef = .pointer (some ⟨g1, 0, none⟩)) (hp2 : tmps.getD p2 undef = .pointer (some ⟨g2, 0, none⟩)) (h1 : Blk w g1 t c1) (h2 : Blk w g2 t2 c2)
    (hu : P.underlying ty = some d) (hd : (match d with | .struct _ | .array _ _ => true | _ => false) = true) (hu2 : P.underlying ty2 = some d2) (hd2 : (match d2 with | .struct _ | .array _ _ => true | _ => false) = true) (hi1 : (P.info? ty).map (·.size) = some c1.size) (hi2 : (P.info? ty2).map (·.size) = some c2.size) :
    (results fn tmps).run P w = .ok (.tuple #[.agg c1, .agg c2, tmps.getD q undef]) w := by
  have hp1' : tmps[p1]?.getD undef = .pointer (some ⟨g1, 0, none⟩) := by simpa using hp1
  have hp2' : tmps[p2]?.getD undef = .pointer (some ⟨g2, 0, none⟩) := by simpa using hp2
  simp [results, h, hp1', hp2', asAddr, run_loadVar_row w g1 t ty c1 (0, 0) d h1 hu hd hi1, run_loadVar_row w g2 t2 ty2 c2 (0, 0) d2 h2 hu2 hd2 hi2]
theorem two_oneB (a b : Int) : ∀ v ∈ (#[Value.int .i64 a, Value.int .i64 b]).toList, v.oneCell' = true := by
  intro v hv
  simp only [List.mem_cons, List.not_mem_nil, or_false] at hv
  rcases hv with rfl | rfl <;> rfl
theorem T_box : (Try.prog.info? 61).map (·.size) = some 2 := by kernel_rfl
theorem keepS {w w1 u v : World} {L : List Int} {a b : Int} (h : (fun w' => (∃ c6, Blk w' w.heap.size 54 c6 ∧ c6.size = 16) ∧ (∃ c7, Blk w' (w.heap.size + 1) 61 c7 ∧ c7.size = 2) ∧ Blk w' w1.heap.size 54 (arr (dg L)) ∧ Blk w' (w1.heap.size + 1) 61 #[.int .i64 a, .int .i64 b] ∧ Below w.heap.size w w') u) (hb : Below u.heap.size u v) : (fun w' => (∃ c6, Blk w' w.heap.size 54 c6 ∧ c6.size = 16) ∧ (∃ c7, Blk w' (w.heap.size + 1) 61 c7 ∧ c7.size = 2) ∧ Blk w' w1.heap.size 54 (arr (dg L)) ∧ Blk w' (w1.heap.size + 1) 61 #[.int .i64 a, .int .i64 b] ∧ Below w.heap.size w w') v := by
  obtain ⟨⟨c6, hc6, hz6⟩, ⟨c7, hc7, hz7⟩, hD, hX, hA⟩ := h
  exact ⟨⟨c6, hc6.below hb hc6.lt, hz6⟩, ⟨c7, hc7.below hb hc7.lt, hz7⟩, hD.below hb hD.lt, hX.below hb hX.lt, hA.trans (hb.mono hA.size)⟩
set_option maxHeartbeats 2000000 in
theorem partsInBox_any (p : Option Addr) (c B : Nat) (L : List Int) (a b : Int) (w : World) (h : Rd w B p (ints L)) (hB : B ≤ w.heap.size) (hl : L.length ≤ 4611686018427387904) :
    Calls Try.prog 62 #[.slice p L.length c, .int .i64 a, .int .i64 b] w fun e w' => e = .returned (.tuple #[.agg (arr (dg L)), .agg #[.int .i64 a, .int .i64 b], .bool (inbF L a b)]) ∧ Below w.heap.size w w' := by
  have hi16 : (Try.prog.info? 54).map (·.size) = some (arr (dg L)).size := by rw [arr_size, dg_len]; exact T_info35
  have hiL : (Try.prog.info? 54).map (·.size) = some (ints (dg L)).length := by rw [List.length_map, dg_len]; exact T_info35
  have hiB : (Try.prog.info? 61).map (·.size) = some ([Value.int .i64 a, Value.int .i64 b]).length := T_box
  have hu := Try.underlying54
  have huB := Try.underlying61
  have hsz : (arr (dg L)).size = (arr (List.replicate 16 0)).size := by rw [arr_size, arr_size, dg_len]; rfl
  have hd0 := Blk.new w 54 (arr (List.replicate 16 0))
  have hx0 := Blk.new (w.alloc (.cells (arr (List.replicate 16 0)) 54)) 61 #[.int .i64 0, .int .i64 0]
  have hd1 := hd0.alloc (.cells #[.int .i64 0, .int .i64 0] 61)
  have hbel0 := ((Below.refl w.heap.size w).alloc (Nat.le_refl _) (.cells (arr (List.replicate 16 0)) 54)).alloc (by simp) (.cells #[.int .i64 0, .int .i64 0] 61)
  obtain ⟨v, hv⟩ : ∃ v, v = valid L := ⟨_, rfl⟩
  have HV := Lib.hid hv
  clear hv
  go_enter Try.func62, Try.ntmps62
  go_wp2_with (first
    | (go_at_call 83; refine (diagramOf_any _ _ B L _ (h.below (hbel0.mono hB)) (by simp; omega) hl).mono ?_; rintro e w1 ⟨rfl, hb1⟩; rw [← HV.out]; have hz1 := hb1.size; rw [World.size_alloc, World.size_alloc] at hz1)
    | (refine wpList_store_row rfl 54 (.tmp 9) (.tmp 15) rfl w1.heap.size rfl (arr (dg L)) rfl 54 (arr (List.replicate 16 0)) (Blk.new w1 _ _) hi16 hsz (arr_one _) ?_; have hB3 := (Blk.new w1 54 (arr (List.replicate 16 0))).row (vs := arr (dg L)); have hb13 : Below w1.heap.size w1 ((w1.alloc (.cells (arr (List.replicate 16 0)) 54)).setRow w1.heap.size (arr (dg L))) := below_setRow' ((Below.refl _ _).alloc (Nat.le_refl _) _) (Nat.le_refl _) _; have hs3 : ((w1.alloc (.cells (arr (List.replicate 16 0)) 54)).setRow w1.heap.size (arr (dg L))).heap.size = w1.heap.size + 1 := (by simp); obtain ⟨w3, hw3⟩ : ∃ w3, w3 = (w1.alloc (.cells (#[.int .i64 0, .int .i64 0, .int .i64 0, .int .i64 0, .int .i64 0, .int .i64 0, .int .i64 0, .int .i64 0, .int .i64 0, .int .i64 0, .int .i64 0, .int .i64 0, .int .i64 0, .int .i64 0, .int .i64 0, .int .i64 0]) 54)).setRow w1.heap.size (arr (dg L)) := ⟨_, rfl⟩; rw [← hw3]; replace hB3 : Blk w3 w1.heap.size 54 (arr (dg L)) := hw3 ▸ hB3; replace hb13 : Below w1.heap.size w1 w3 := hw3 ▸ hb13; replace hs3 : w3.heap.size = w1.heap.size + 1 := hw3 ▸ hs3; clear hw3))
  rw [World.size_alloc] at hx0
  have hw41 : w3.heap.size = w1.heap.size + 1 := hs3
  have hS0 : (fun w' => (∃ c6, Blk w' w.heap.size 54 c6 ∧ c6.size = 16) ∧ (∃ c7, Blk w' (w.heap.size + 1) 61 c7 ∧ c7.size = 2) ∧ Blk w' w1.heap.size 54 (arr (dg L)) ∧ Blk w' (w1.heap.size + 1) 61 #[.int .i64 a, .int .i64 b] ∧ Below w.heap.size w w') (w3.alloc (.cells #[.int .i64 a, .int .i64 b] 61)).drew := by
    have e := Blk.new w3 61 #[Value.int .i64 a, Value.int .i64 b]
    rw [hs3] at e
    rw [World.size_alloc, World.size_alloc] at hb1
    refine ⟨⟨_, (((hd1.below hb1 (by omega)).below hb13 (by omega)).alloc _).drew, by rfl⟩, ⟨_, (((hx0.below hb1 (by omega)).below hb13 (by omega)).alloc _).drew, by rfl⟩, (hB3.alloc _).drew, e.drew, ?_⟩
    exact ((((hbel0.trans (hb1.mono (by omega))).trans (hb13.mono (by omega))).alloc (by omega) _)).trans ((Dr.n _ 1).below _)
  have HS0 := Lib.hid hS0
  clear hd0 hd1 hx0 hbel0 hB3 hS0
  cases v with
  | false =>
    have HR : Hid (inbF L a b = false) := Lib.hid (by unfold inbF; rw [← HV.out]; rfl)
    have hS0 := HS0.out
    refine wp_region_held_drew (S := fun w' => (∃ c6, Blk w' w.heap.size 54 c6 ∧ c6.size = 16) ∧ (∃ c7, Blk w' (w.heap.size + 1) 61 c7 ∧ c7.size = 2) ∧ Blk w' w1.heap.size 54 (arr (dg L)) ∧ Blk w' (w1.heap.size + 1) 61 #[.int .i64 a, .int .i64 b] ∧ Below w.heap.size w w') (by kernel_rfl) hS0 (fun hHeld => ?_)
    refine wpAnyH_take (i := 0) (v := _) (by simp only [List.getElem?_toArray, List.getElem?_cons_succ, List.getElem?_cons_zero]; exact rfl) (by kernel_rfl) (by kernel_rfl) (by kernel_rfl) (by intro _ _ _ h; exact h) (yieldsIf_load_mid (by kernel_rfl) _ _ rfl w1.heap.size 0 rfl (ints (dg L)) _ (fun _ hw => Blk.rangeB (vs := ints (dg L)) hw.2.2.1) hu rfl hiL) (by assumption) ?_
    simp only [Act.put, List.setIfInBounds_toArray, List.set_cons_zero, List.set_cons_succ, List.toList_toArray]
    refine wpAnyH_take (i := 1) (v := _) (by simp only [List.getElem?_toArray, List.getElem?_cons_succ, List.getElem?_cons_zero]; exact rfl) (by kernel_rfl) (by kernel_rfl) (by kernel_rfl) (by intro _ _ _ h; exact h) (yieldsIf_load_mid (by kernel_rfl) _ _ rfl (w1.heap.size + 1) 0 rfl [.int .i64 a, .int .i64 b] _ (fun _ hw => Blk.rangeB (vs := [.int .i64 a, .int .i64 b]) hw.2.2.2.1) huB rfl hiB) (by assumption) ?_
    simp only [Act.put, List.setIfInBounds_toArray, List.set_cons_zero, List.set_cons_succ, List.toList_toArray]
    refine wpAnyH_take (i := 2) (v := .bool false) (by simp only [List.getElem?_toArray, List.getElem?_cons_succ, List.getElem?_cons_zero]; exact rfl) (by kernel_rfl) (by kernel_rfl) (by kernel_rfl) (by intro _ _ _ h; exact h) (Or.inl ⟨by kernel_rfl, by intro w hSw; go_simp⟩) (by assumption) ?_
    simp only [Act.put, List.setIfInBounds_toArray, List.set_cons_zero, List.set_cons_succ, List.toList_toArray]
    refine wpAnyH_take (i := 3) (v := .bool false) (by simp only [List.getElem?_toArray, List.getElem?_cons_succ, List.getElem?_cons_zero]; exact rfl) (by kernel_rfl) (by kernel_rfl) (by kernel_rfl) (by intro _ _ _ h; exact h) (Or.inl ⟨by kernel_rfl, by intro w hSw; go_simp⟩) (by assumption) ?_
    simp only [Act.put, List.setIfInBounds_toArray, List.set_cons_zero, List.set_cons_succ, List.toList_toArray]
    refine wpAnyH_take (i := 4) (v := undef) (by simp only [List.getElem?_toArray, List.getElem?_cons_succ, List.getElem?_cons_zero]; exact rfl) (by kernel_rfl) (by kernel_rfl) (by kernel_rfl) (by intro _ _ _ h; exact h) (Or.inr ⟨by kernel_rfl, rfl⟩) (by assumption) ?_
    simp only [Act.put, List.setIfInBounds_toArray, List.set_cons_zero, List.set_cons_succ, List.toList_toArray]
    refine wpAnyH_take (i := 5) (v := undef) (by simp only [List.getElem?_toArray, List.getElem?_cons_succ, List.getElem?_cons_zero]; exact rfl) (by kernel_rfl) (by kernel_rfl) (by kernel_rfl) (by intro _ _ _ h; exact h) (Or.inr ⟨by kernel_rfl, rfl⟩) (by assumption) ?_
    simp only [Act.put, List.setIfInBounds_toArray, List.set_cons_zero, List.set_cons_succ, List.toList_toArray]
    refine wpAnyH_take (i := 6) (v := .bool false) (by simp only [List.getElem?_toArray, List.getElem?_cons_succ, List.getElem?_cons_zero]; exact rfl) (by kernel_rfl) (by kernel_rfl) (by kernel_rfl) (by intro _ _ _ h; exact h) (Or.inl ⟨by kernel_rfl, by intro w hSw; go_simp⟩) (by assumption) ?_
    simp only [Act.put, List.setIfInBounds_toArray, List.set_cons_zero, List.set_cons_succ, List.toList_toArray]
    refine wpAnyH_take (i := 7) (v := .bool false) (by simp only [List.getElem?_toArray, List.getElem?_cons_succ, List.getElem?_cons_zero]; exact rfl) (by kernel_rfl) (by kernel_rfl) (by kernel_rfl) (by intro _ _ _ h; exact h) (Or.inl ⟨by kernel_rfl, by intro w hSw; go_simp⟩) (by assumption) ?_
    simp only [Act.put, List.setIfInBounds_toArray, List.set_cons_zero, List.set_cons_succ, List.toList_toArray]
    refine wpAnyH_take (i := 8) (v := undef) (by simp only [List.getElem?_toArray, List.getElem?_cons_succ, List.getElem?_cons_zero]; exact rfl) (by kernel_rfl) (by kernel_rfl) (by kernel_rfl) (by intro _ _ _ h; exact h) (Or.inr ⟨by kernel_rfl, rfl⟩) (by assumption) ?_
    simp only [Act.put, List.setIfInBounds_toArray, List.set_cons_zero, List.set_cons_succ, List.toList_toArray]
    refine wpAnyH_take (i := 9) (v := undef) (by simp only [List.getElem?_toArray, List.getElem?_cons_succ, List.getElem?_cons_zero]; exact rfl) (by kernel_rfl) (by kernel_rfl) (by kernel_rfl) (by intro _ _ _ h; exact h) (Or.inr ⟨by kernel_rfl, rfl⟩) (by assumption) ?_
    simp only [Act.put, List.setIfInBounds_toArray, List.set_cons_zero, List.set_cons_succ, List.toList_toArray]
    refine wpAnyH_take (i := 10) (v := undef) (by simp only [List.getElem?_toArray, List.getElem?_cons_succ, List.getElem?_cons_zero]; exact rfl) (by kernel_rfl) (by kernel_rfl) (by kernel_rfl) (by intro _ _ _ h; exact h) (Or.inr ⟨by kernel_rfl, rfl⟩) (by assumption) ?_
    simp only [Act.put, List.setIfInBounds_toArray, List.set_cons_zero, List.set_cons_succ, List.toList_toArray]
    refine wpAnyH_take (i := 11) (v := .bool false) (by simp only [List.getElem?_toArray, List.getElem?_cons_succ, List.getElem?_cons_zero]; exact rfl) (by kernel_rfl) (by kernel_rfl) (by kernel_rfl) (by intro _ _ _ h; exact h) (Or.inl ⟨by kernel_rfl, by intro w hSw; go_simp⟩) (by assumption) ?_
    simp only [Act.put, List.setIfInBounds_toArray, List.set_cons_zero, List.set_cons_succ, List.toList_toArray]
    obtain ⟨⟨c6, hc6, hz6⟩, ⟨c7, hc7, hz7⟩, hD, hX, hA⟩ := hHeld
    refine wpAnyH_ready (rs := [12]) (by kernel_rfl) (by simp) ?_
    refine AllReadyH.cons (o := _) (by simp only [List.getElem?_toArray, List.getElem?_cons_succ, List.getElem?_cons_zero]; exact rfl) (fun K hK => ?_) AllReadyH.nil
    rw [if_pos (by rfl)]
    refine oper_store_row 54 (.tmp 6) (.tmp 20) rfl w.heap.size rfl (arr (dg L)) rfl 54 _ hc6 hi16 (by rw [hz6, arr_size, dg_len]) (arr_one _) ?_
    refine hK.out _ _ ⟨⟨_, hc6.row, by rw [arr_size, dg_len]⟩, ⟨c7, hc7.rowOff (by omega), hz7⟩, hD.rowOff (by omega), hX.rowOff (by omega), below_setRow' hA (Nat.le_refl _) _⟩ (fun hF1 => ?_)
    clear hK K
    try simp only [Act.put, List.setIfInBounds_toArray, List.set_cons_zero, List.set_cons_succ, List.toList_toArray]
    refine wpAnyH_ready (rs := [13]) (by kernel_rfl) (by simp) ?_
    refine AllReadyH.cons (o := _) (by simp only [List.getElem?_toArray, List.getElem?_cons_succ, List.getElem?_cons_zero]; exact rfl) (fun K hK => ?_) AllReadyH.nil
    rw [if_pos (by rfl)]
    refine oper_store_row 61 (.tmp 7) (.tmp 21) rfl (w.heap.size + 1) rfl #[.int .i64 a, .int .i64 b] rfl 61 _ (hc7.rowOff (by omega)) T_box (by rw [hz7]; rfl) (two_oneB _ _) ?_
    refine hK.out _ _ ⟨⟨_, (hc6.row (vs := arr (dg L))).rowOff (by omega), by rw [arr_size, dg_len]⟩, ⟨_, (hc7.rowOff (by omega)).row, rfl⟩, (hD.rowOff (by omega)).rowOff (by omega), (hX.rowOff (by omega)).rowOff (by omega), below_setRow' (below_setRow' hA (Nat.le_refl _) _) (by omega) _⟩ (fun hF2 => ?_)
    clear hK K
    try simp only [Act.put, List.setIfInBounds_toArray, List.set_cons_zero, List.set_cons_succ, List.toList_toArray]
    refine wpAnyH_take (i := 14) (v := .bool false) (by simp only [List.getElem?_toArray, List.getElem?_cons_succ, List.getElem?_cons_zero]; exact rfl) (by kernel_rfl) (by kernel_rfl) (by kernel_rfl) (by intro _ _ _ h; exact h) (Or.inl ⟨by kernel_rfl, by intro w hSw; go_simp⟩) (by assumption) ?_
    simp only [Act.put, List.setIfInBounds_toArray, List.set_cons_zero, List.set_cons_succ, List.toList_toArray]
    refine wpAnyH_done (by kernel_rfl) ?_ _
    try simp only [Act.put, List.setIfInBounds_toArray, List.set_cons_zero, List.set_cons_succ]
    go_wp2_with fail
    refine bodyPost_ret (results_2blk2_tmp rfl _ _ w.heap.size (w.heap.size + 1) 54 61 (arr (dg L)) #[.int .i64 a, .int .i64 b] _ _ rfl rfl ((hc6.row (vs := arr (dg L))).rowOff (by omega)) ((hc7.rowOff (by omega)).row) hu rfl huB rfl hi16 T_box) rfl ?_
    rw [HR.out]
    exact ⟨rfl, hF2.2.2.2.2⟩
  | true =>
    cases hlim : limB a b with
    | false =>
      have HR : Hid (inbF L a b = false) := Lib.hid (by unfold inbF; rw [← HV.out, hlim]; rfl)
      have HLI := Lib.hid hlim
      clear hlim
      have hS0 := HS0.out
      refine wp_region_held_drew (S := fun w' => (∃ c6, Blk w' w.heap.size 54 c6 ∧ c6.size = 16) ∧ (∃ c7, Blk w' (w.heap.size + 1) 61 c7 ∧ c7.size = 2) ∧ Blk w' w1.heap.size 54 (arr (dg L)) ∧ Blk w' (w1.heap.size + 1) 61 #[.int .i64 a, .int .i64 b] ∧ Below w.heap.size w w') (by kernel_rfl) hS0 (fun hHeld => ?_)
      refine wpAnyH_take (i := 0) (v := _) (by simp only [List.getElem?_toArray, List.getElem?_cons_succ, List.getElem?_cons_zero]; exact rfl) (by kernel_rfl) (by kernel_rfl) (by kernel_rfl) (by intro _ _ _ h; exact h) (yieldsIf_load_mid (by kernel_rfl) _ _ rfl w1.heap.size 0 rfl (ints (dg L)) _ (fun _ hw => Blk.rangeB (vs := ints (dg L)) hw.2.2.1) hu rfl hiL) (by assumption) ?_
      simp only [Act.put, List.setIfInBounds_toArray, List.set_cons_zero, List.set_cons_succ, List.toList_toArray]
      refine wpAnyH_take (i := 1) (v := _) (by simp only [List.getElem?_toArray, List.getElem?_cons_succ, List.getElem?_cons_zero]; exact rfl) (by kernel_rfl) (by kernel_rfl) (by kernel_rfl) (by intro _ _ _ h; exact h) (yieldsIf_load_mid (by kernel_rfl) _ _ rfl (w1.heap.size + 1) 0 rfl [.int .i64 a, .int .i64 b] _ (fun _ hw => Blk.rangeB (vs := [.int .i64 a, .int .i64 b]) hw.2.2.2.1) huB rfl hiB) (by assumption) ?_
      simp only [Act.put, List.setIfInBounds_toArray, List.set_cons_zero, List.set_cons_succ, List.toList_toArray]
      refine wpAnyH_take (i := 2) (v := .bool true) (by simp only [List.getElem?_toArray, List.getElem?_cons_succ, List.getElem?_cons_zero]; exact rfl) (by kernel_rfl) (by kernel_rfl) (by kernel_rfl) (by intro _ _ _ h; exact h) (Or.inl ⟨by kernel_rfl, by intro w hSw; go_simp⟩) (by assumption) ?_
      simp only [Act.put, List.setIfInBounds_toArray, List.set_cons_zero, List.set_cons_succ, List.toList_toArray]
      refine wpAnyH_take (i := 3) (v := .bool true) (by simp only [List.getElem?_toArray, List.getElem?_cons_succ, List.getElem?_cons_zero]; exact rfl) (by kernel_rfl) (by kernel_rfl) (by kernel_rfl) (by intro _ _ _ h; exact h) (Or.inl ⟨by kernel_rfl, by intro w hSw; go_simp⟩) (by assumption) ?_
      simp only [Act.put, List.setIfInBounds_toArray, List.set_cons_zero, List.set_cons_succ, List.toList_toArray]
      refine wpAnyH_take (i := 4) (v := _) (by simp only [List.getElem?_toArray, List.getElem?_cons_succ, List.getElem?_cons_zero]; exact rfl) (by kernel_rfl) (by kernel_rfl) (by kernel_rfl) (by intro _ _ _ h; exact h) (yieldsIf_load_mid (by kernel_rfl) _ _ rfl (w1.heap.size + 1) 0 rfl [.int .i64 a, .int .i64 b] _ (fun _ hw => Blk.rangeB (vs := [.int .i64 a, .int .i64 b]) hw.2.2.2.1) huB rfl hiB) (by assumption) ?_
      simp only [Act.put, List.setIfInBounds_toArray, List.set_cons_zero, List.set_cons_succ, List.toList_toArray]
      refine wpAnyH_ready (rs := [5]) (by kernel_rfl) (by simp) ?_
      refine AllReadyH.cons (o := _) (by simp only [List.getElem?_toArray, List.getElem?_cons_succ, List.getElem?_cons_zero]; exact rfl) (fun K hK => ?_) AllReadyH.nil
      rw [if_pos (by rfl)]
      go_simp
      go_at_call 57
      refine (isInLimits_any a b _).mono ?_
      rintro e w5 ⟨rfl, hb5⟩
      rw [HLI.out]
      refine hK.out _ _ (keepS hHeld hb5) (fun hH5 => ?_)
      clear hK K
      try simp only [Act.put, List.setIfInBounds_toArray, List.set_cons_zero, List.set_cons_succ, List.toList_toArray]
      refine wpAnyH_take (i := 6) (v := .bool false) (by simp only [List.getElem?_toArray, List.getElem?_cons_succ, List.getElem?_cons_zero]; exact rfl) (by kernel_rfl) (by kernel_rfl) (by kernel_rfl) (by intro _ _ _ h; exact h) (Or.inl ⟨by kernel_rfl, by intro w hSw; go_simp⟩) (by assumption) ?_
      simp only [Act.put, List.setIfInBounds_toArray, List.set_cons_zero, List.set_cons_succ, List.toList_toArray]
      refine wpAnyH_take (i := 7) (v := .bool false) (by simp only [List.getElem?_toArray, List.getElem?_cons_succ, List.getElem?_cons_zero]; exact rfl) (by kernel_rfl) (by kernel_rfl) (by kernel_rfl) (by intro _ _ _ h; exact h) (Or.inl ⟨by kernel_rfl, by intro w hSw; go_simp⟩) (by assumption) ?_
      simp only [Act.put, List.setIfInBounds_toArray, List.set_cons_zero, List.set_cons_succ, List.toList_toArray]
      refine wpAnyH_take (i := 8) (v := undef) (by simp only [List.getElem?_toArray, List.getElem?_cons_succ, List.getElem?_cons_zero]; exact rfl) (by kernel_rfl) (by kernel_rfl) (by kernel_rfl) (by intro _ _ _ h; exact h) (Or.inr ⟨by kernel_rfl, rfl⟩) (by assumption) ?_
      simp only [Act.put, List.setIfInBounds_toArray, List.set_cons_zero, List.set_cons_succ, List.toList_toArray]
      refine wpAnyH_take (i := 9) (v := undef) (by simp only [List.getElem?_toArray, List.getElem?_cons_succ, List.getElem?_cons_zero]; exact rfl) (by kernel_rfl) (by kernel_rfl) (by kernel_rfl) (by intro _ _ _ h; exact h) (Or.inr ⟨by kernel_rfl, rfl⟩) (by assumption) ?_
      simp only [Act.put, List.setIfInBounds_toArray, List.set_cons_zero, List.set_cons_succ, List.toList_toArray]
      refine wpAnyH_take (i := 10) (v := undef) (by simp only [List.getElem?_toArray, List.getElem?_cons_succ, List.getElem?_cons_zero]; exact rfl) (by kernel_rfl) (by kernel_rfl) (by kernel_rfl) (by intro _ _ _ h; exact h) (Or.inr ⟨by kernel_rfl, rfl⟩) (by assumption) ?_
      simp only [Act.put, List.setIfInBounds_toArray, List.set_cons_zero, List.set_cons_succ, List.toList_toArray]
      refine wpAnyH_take (i := 11) (v := .bool false) (by simp only [List.getElem?_toArray, List.getElem?_cons_succ, List.getElem?_cons_zero]; exact rfl) (by kernel_rfl) (by kernel_rfl) (by kernel_rfl) (by intro _ _ _ h; exact h) (Or.inl ⟨by kernel_rfl, by intro w hSw; go_simp⟩) (by assumption) ?_
      simp only [Act.put, List.setIfInBounds_toArray, List.set_cons_zero, List.set_cons_succ, List.toList_toArray]
      obtain ⟨⟨c6, hc6, hz6⟩, ⟨c7, hc7, hz7⟩, hD, hX, hA⟩ := hH5
      refine wpAnyH_ready (rs := [12]) (by kernel_rfl) (by simp) ?_
      refine AllReadyH.cons (o := _) (by simp only [List.getElem?_toArray, List.getElem?_cons_succ, List.getElem?_cons_zero]; exact rfl) (fun K hK => ?_) AllReadyH.nil
      rw [if_pos (by rfl)]
      refine oper_store_row 54 (.tmp 6) (.tmp 20) rfl w.heap.size rfl (arr (dg L)) rfl 54 _ hc6 hi16 (by rw [hz6, arr_size, dg_len]) (arr_one _) ?_
      refine hK.out _ _ ⟨⟨_, hc6.row, by rw [arr_size, dg_len]⟩, ⟨c7, hc7.rowOff (by omega), hz7⟩, hD.rowOff (by omega), hX.rowOff (by omega), below_setRow' hA (Nat.le_refl _) _⟩ (fun hF1 => ?_)
      clear hK K
      try simp only [Act.put, List.setIfInBounds_toArray, List.set_cons_zero, List.set_cons_succ, List.toList_toArray]
      refine wpAnyH_ready (rs := [13]) (by kernel_rfl) (by simp) ?_
      refine AllReadyH.cons (o := _) (by simp only [List.getElem?_toArray, List.getElem?_cons_succ, List.getElem?_cons_zero]; exact rfl) (fun K hK => ?_) AllReadyH.nil
      rw [if_pos (by rfl)]
      refine oper_store_row 61 (.tmp 7) (.tmp 21) rfl (w.heap.size + 1) rfl #[.int .i64 a, .int .i64 b] rfl 61 _ (hc7.rowOff (by omega)) T_box (by rw [hz7]; rfl) (two_oneB _ _) ?_
      refine hK.out _ _ ⟨⟨_, (hc6.row (vs := arr (dg L))).rowOff (by omega), by rw [arr_size, dg_len]⟩, ⟨_, (hc7.rowOff (by omega)).row, rfl⟩, (hD.rowOff (by omega)).rowOff (by omega), (hX.rowOff (by omega)).rowOff (by omega), below_setRow' (below_setRow' hA (Nat.le_refl _) _) (by omega) _⟩ (fun hF2 => ?_)
      clear hK K
      try simp only [Act.put, List.setIfInBounds_toArray, List.set_cons_zero, List.set_cons_succ, List.toList_toArray]
      refine wpAnyH_take (i := 14) (v := .bool false) (by simp only [List.getElem?_toArray, List.getElem?_cons_succ, List.getElem?_cons_zero]; exact rfl) (by kernel_rfl) (by kernel_rfl) (by kernel_rfl) (by intro _ _ _ h; exact h) (Or.inl ⟨by kernel_rfl, by intro w hSw; go_simp⟩) (by assumption) ?_
      simp only [Act.put, List.setIfInBounds_toArray, List.set_cons_zero, List.set_cons_succ, List.toList_toArray]
      refine wpAnyH_done (by kernel_rfl) ?_ _
      try simp only [Act.put, List.setIfInBounds_toArray, List.set_cons_zero, List.set_cons_succ]
      go_wp2_with fail
      refine bodyPost_ret (results_2blk2_tmp rfl _ _ w.heap.size (w.heap.size + 1) 54 61 (arr (dg L)) #[.int .i64 a, .int .i64 b] _ _ rfl rfl ((hc6.row (vs := arr (dg L))).rowOff (by omega)) ((hc7.rowOff (by omega)).row) hu rfl huB rfl hi16 T_box) rfl ?_
      rw [HR.out]
      exact ⟨rfl, hF2.2.2.2.2⟩
    | true =>
      obtain ⟨q, hq⟩ : ∃ q, q = decide ((L.length : Int) ≤ a ∧ L.headD 0 ≤ b) := ⟨_, rfl⟩
      have HR : Hid (inbF L a b = q) := Lib.hid (by unfold inbF; rw [← HV.out, hlim, hq]; rfl)
      have HQ := Lib.hid hq
      have HLI := Lib.hid hlim
      have HVL : Hid (valid L = true) := Lib.hid HV.out.symm
      have HDG := Lib.hid (dg_yes HV.out.symm)
      clear hlim hq
      have hS0 := HS0.out
      refine wp_region_held_drew (S := fun w' => (∃ c6, Blk w' w.heap.size 54 c6 ∧ c6.size = 16) ∧ (∃ c7, Blk w' (w.heap.size + 1) 61 c7 ∧ c7.size = 2) ∧ Blk w' w1.heap.size 54 (arr (dg L)) ∧ Blk w' (w1.heap.size + 1) 61 #[.int .i64 a, .int .i64 b] ∧ Below w.heap.size w w') (by kernel_rfl) hS0 (fun hHeld => ?_)
      refine wpAnyH_take (i := 0) (v := _) (by simp only [List.getElem?_toArray, List.getElem?_cons_succ, List.getElem?_cons_zero]; exact rfl) (by kernel_rfl) (by kernel_rfl) (by kernel_rfl) (by intro _ _ _ h; exact h) (yieldsIf_load_mid (by kernel_rfl) _ _ rfl w1.heap.size 0 rfl (ints (dg L)) _ (fun _ hw => Blk.rangeB (vs := ints (dg L)) hw.2.2.1) hu rfl hiL) (by assumption) ?_
      simp only [Act.put, List.setIfInBounds_toArray, List.set_cons_zero, List.set_cons_succ, List.toList_toArray]
      refine wpAnyH_take (i := 1) (v := _) (by simp only [List.getElem?_toArray, List.getElem?_cons_succ, List.getElem?_cons_zero]; exact rfl) (by kernel_rfl) (by kernel_rfl) (by kernel_rfl) (by intro _ _ _ h; exact h) (yieldsIf_load_mid (by kernel_rfl) _ _ rfl (w1.heap.size + 1) 0 rfl [.int .i64 a, .int .i64 b] _ (fun _ hw => Blk.rangeB (vs := [.int .i64 a, .int .i64 b]) hw.2.2.2.1) huB rfl hiB) (by assumption) ?_
      simp only [Act.put, List.setIfInBounds_toArray, List.set_cons_zero, List.set_cons_succ, List.toList_toArray]
      refine wpAnyH_take (i := 2) (v := .bool true) (by simp only [List.getElem?_toArray, List.getElem?_cons_succ, List.getElem?_cons_zero]; exact rfl) (by kernel_rfl) (by kernel_rfl) (by kernel_rfl) (by intro _ _ _ h; exact h) (Or.inl ⟨by kernel_rfl, by intro w hSw; go_simp⟩) (by assumption) ?_
      simp only [Act.put, List.setIfInBounds_toArray, List.set_cons_zero, List.set_cons_succ, List.toList_toArray]
      refine wpAnyH_take (i := 3) (v := .bool true) (by simp only [List.getElem?_toArray, List.getElem?_cons_succ, List.getElem?_cons_zero]; exact rfl) (by kernel_rfl) (by kernel_rfl) (by kernel_rfl) (by intro _ _ _ h; exact h) (Or.inl ⟨by kernel_rfl, by intro w hSw; go_simp⟩) (by assumption) ?_
      simp only [Act.put, List.setIfInBounds_toArray, List.set_cons_zero, List.set_cons_succ, List.toList_toArray]
      refine wpAnyH_take (i := 4) (v := _) (by simp only [List.getElem?_toArray, List.getElem?_cons_succ, List.getElem?_cons_zero]; exact rfl) (by kernel_rfl) (by kernel_rfl) (by kernel_rfl) (by intro _ _ _ h; exact h) (yieldsIf_load_mid (by kernel_rfl) _ _ rfl (w1.heap.size + 1) 0 rfl [.int .i64 a, .int .i64 b] _ (fun _ hw => Blk.rangeB (vs := [.int .i64 a, .int .i64 b]) hw.2.2.2.1) huB rfl hiB) (by assumption) ?_
      simp only [Act.put, List.setIfInBounds_toArray, List.set_cons_zero, List.set_cons_succ, List.toList_toArray]
      refine wpAnyH_ready (rs := [5]) (by kernel_rfl) (by simp) ?_
      refine AllReadyH.cons (o := _) (by simp only [List.getElem?_toArray, List.getElem?_cons_succ, List.getElem?_cons_zero]; exact rfl) (fun K hK => ?_) AllReadyH.nil
      rw [if_pos (by rfl)]
      go_simp
      go_at_call 57
      refine (isInLimits_any a b _).mono ?_
      rintro e w5 ⟨rfl, hb5⟩
      rw [HLI.out]
      refine hK.out _ _ (keepS hHeld hb5) (fun hH5 => ?_)
      clear hK K
      try simp only [Act.put, List.setIfInBounds_toArray, List.set_cons_zero, List.set_cons_succ, List.toList_toArray]
      refine wpAnyH_take (i := 6) (v := .bool true) (by simp only [List.getElem?_toArray, List.getElem?_cons_succ, List.getElem?_cons_zero]; exact rfl) (by kernel_rfl) (by kernel_rfl) (by kernel_rfl) (by intro _ _ _ h; exact h) (Or.inl ⟨by kernel_rfl, by intro w hSw; go_simp⟩) (by assumption) ?_
      simp only [Act.put, List.setIfInBounds_toArray, List.set_cons_zero, List.set_cons_succ, List.toList_toArray]
      refine wpAnyH_take (i := 7) (v := .bool true) (by simp only [List.getElem?_toArray, List.getElem?_cons_succ, List.getElem?_cons_zero]; exact rfl) (by kernel_rfl) (by kernel_rfl) (by kernel_rfl) (by intro _ _ _ h; exact h) (Or.inl ⟨by kernel_rfl, by intro w hSw; go_simp⟩) (by assumption) ?_
      simp only [Act.put, List.setIfInBounds_toArray, List.set_cons_zero, List.set_cons_succ, List.toList_toArray]
      refine wpAnyH_take (i := 8) (v := _) (by simp only [List.getElem?_toArray, List.getElem?_cons_succ, List.getElem?_cons_zero]; exact rfl) (by kernel_rfl) (by kernel_rfl) (by kernel_rfl) (by intro _ _ _ h; exact h) (yieldsIf_load_mid (by kernel_rfl) _ _ rfl (w1.heap.size + 1) 0 rfl [.int .i64 a, .int .i64 b] _ (fun _ hw => Blk.rangeB (vs := [.int .i64 a, .int .i64 b]) hw.2.2.2.1) huB rfl hiB) (by assumption) ?_
      simp only [Act.put, List.setIfInBounds_toArray, List.set_cons_zero, List.set_cons_succ, List.toList_toArray]
      refine wpAnyH_take (i := 9) (v := .agg (arr (pad L))) (by simp only [List.getElem?_toArray, List.getElem?_cons_succ, List.getElem?_cons_zero]; exact rfl) (by kernel_rfl) (by kernel_rfl) (by kernel_rfl) (by intro _ _ _ h; exact h) (by rw [← HDG.out]; exact yieldsIf_load_mid (by kernel_rfl) _ _ rfl w1.heap.size 0 rfl (ints (dg L)) _ (fun _ hw => Blk.rangeB (vs := ints (dg L)) hw.2.2.1) hu rfl hiL) (by assumption) ?_
      simp only [Act.put, List.setIfInBounds_toArray, List.set_cons_zero, List.set_cons_succ, List.toList_toArray]
      refine wpAnyH_ready (rs := [10]) (by kernel_rfl) (by simp) ?_
      refine AllReadyH.cons (o := _) (by simp only [List.getElem?_toArray, List.getElem?_cons_succ, List.getElem?_cons_zero]; exact rfl) (fun K hK => ?_) AllReadyH.nil
      rw [if_pos (by rfl)]
      go_simp
      go_at_call 81
      refine (holds_any a b L HVL.out _).mono ?_
      rintro e w6 ⟨rfl, hb6⟩
      rw [← HQ.out]
      refine hK.out _ _ (keepS hH5 hb6) (fun hH6 => ?_)
      clear hK K
      try simp only [Act.put, List.setIfInBounds_toArray, List.set_cons_zero, List.set_cons_succ, List.toList_toArray]
      refine wpAnyH_take (i := 11) (v := .bool q) (by simp only [List.getElem?_toArray, List.getElem?_cons_succ, List.getElem?_cons_zero]; exact rfl) (by kernel_rfl) (by kernel_rfl) (by kernel_rfl) (by intro _ _ _ h; exact h) (Or.inl ⟨by kernel_rfl, by intro w hSw; go_simp⟩) (by assumption) ?_
      simp only [Act.put, List.setIfInBounds_toArray, List.set_cons_zero, List.set_cons_succ, List.toList_toArray]
      obtain ⟨⟨c6, hc6, hz6⟩, ⟨c7, hc7, hz7⟩, hD, hX, hA⟩ := hH6
      refine wpAnyH_ready (rs := [12]) (by kernel_rfl) (by simp) ?_
      refine AllReadyH.cons (o := _) (by simp only [List.getElem?_toArray, List.getElem?_cons_succ, List.getElem?_cons_zero]; exact rfl) (fun K hK => ?_) AllReadyH.nil
      rw [if_pos (by rfl)]
      refine oper_store_row 54 (.tmp 6) (.tmp 20) rfl w.heap.size rfl (arr (dg L)) rfl 54 _ hc6 hi16 (by rw [hz6, arr_size, dg_len]) (arr_one _) ?_
      refine hK.out _ _ ⟨⟨_, hc6.row, by rw [arr_size, dg_len]⟩, ⟨c7, hc7.rowOff (by omega), hz7⟩, hD.rowOff (by omega), hX.rowOff (by omega), below_setRow' hA (Nat.le_refl _) _⟩ (fun hF1 => ?_)
      clear hK K
      try simp only [Act.put, List.setIfInBounds_toArray, List.set_cons_zero, List.set_cons_succ, List.toList_toArray]
      refine wpAnyH_ready (rs := [13]) (by kernel_rfl) (by simp) ?_
      refine AllReadyH.cons (o := _) (by simp only [List.getElem?_toArray, List.getElem?_cons_succ, List.getElem?_cons_zero]; exact rfl) (fun K hK => ?_) AllReadyH.nil
      rw [if_pos (by rfl)]
      refine oper_store_row 61 (.tmp 7) (.tmp 21) rfl (w.heap.size + 1) rfl #[.int .i64 a, .int .i64 b] rfl 61 _ (hc7.rowOff (by omega)) T_box (by rw [hz7]; rfl) (two_oneB _ _) ?_
      refine hK.out _ _ ⟨⟨_, (hc6.row (vs := arr (dg L))).rowOff (by omega), by rw [arr_size, dg_len]⟩, ⟨_, (hc7.rowOff (by omega)).row, rfl⟩, (hD.rowOff (by omega)).rowOff (by omega), (hX.rowOff (by omega)).rowOff (by omega), below_setRow' (below_setRow' hA (Nat.le_refl _) _) (by omega) _⟩ (fun hF2 => ?_)
      clear hK K
      try simp only [Act.put, List.setIfInBounds_toArray, List.set_cons_zero, List.set_cons_succ, List.toList_toArray]
      refine wpAnyH_take (i := 14) (v := .bool q) (by simp only [List.getElem?_toArray, List.getElem?_cons_succ, List.getElem?_cons_zero]; exact rfl) (by kernel_rfl) (by kernel_rfl) (by kernel_rfl) (by intro _ _ _ h; exact h) (Or.inl ⟨by kernel_rfl, by intro w hSw; go_simp⟩) (by assumption) ?_
      simp only [Act.put, List.setIfInBounds_toArray, List.set_cons_zero, List.set_cons_succ, List.toList_toArray]
      refine wpAnyH_done (by kernel_rfl) ?_ _
      try simp only [Act.put, List.setIfInBounds_toArray, List.set_cons_zero, List.set_cons_succ]
      go_wp2_with fail
      refine bodyPost_ret (results_2blk2_tmp rfl _ _ w.heap.size (w.heap.size + 1) 54 61 (arr (dg L)) #[.int .i64 a, .int .i64 b] _ _ rfl rfl ((hc6.row (vs := arr (dg L))).rowOff (by omega)) ((hc7.rowOff (by omega)).row) hu rfl huB rfl hi16 T_box) rfl ?_
      rw [HR.out]
      exact ⟨rfl, hF2.2.2.2.2⟩
theorem iInBox_any (p : Option Addr) (c B : Nat) (L : List Int) (a b : Int) (w : World) (h : Rd w B p (ints L)) (hB : B ≤ w.heap.size) (hl : L.length ≤ 4611686018427387904) :
    Calls Try.prog 38 #[.slice p L.length c, .int .i64 a, .int .i64 b] w fun e w' => e = .returned (.bool (inbF L a b)) ∧ Below w.heap.size w w' := by
  have hi16 : (Try.prog.info? 54).map (·.size) = some (arr (dg L)).size := by rw [arr_size, dg_len]; exact T_info35
  have hsz : (arr (dg L)).size = (arr (List.replicate 16 0)).size := by rw [arr_size, arr_size, dg_len]; rfl
  go_enter Try.func38, Try.ntmps38
  go_wp2_with (first
    | (go_at_call 62; refine (partsInBox_any _ _ B L a b _ h hB hl).mono ?_; rintro e w1 ⟨rfl, hb1⟩; have hz1 := hb1.size; have hd0 := (Blk.new w1 54 (arr (List.replicate 16 0))).alloc (.cells #[.int .i64 0, .int .i64 0] 61); have hx0 := Blk.new (w1.alloc (.cells (arr (List.replicate 16 0)) 54)) 61 #[Value.int .i64 0, Value.int .i64 0]; rw [World.size_alloc] at hx0; have hA := (hb1.alloc hz1 (.cells (arr (List.replicate 16 0)) 54)).alloc (by simp; omega) (.cells #[.int .i64 0, .int .i64 0] 61))
    | (refine wpList_store_row rfl 54 (.tmp 7) (.tmp 15) rfl w1.heap.size rfl (arr (dg L)) rfl 54 (arr (List.replicate 16 0)) hd0 hi16 hsz (arr_one _) ?_)
    | (refine wpList_store_row rfl 61 (.tmp 8) (.tmp 16) rfl (w1.heap.size + 1) rfl #[.int .i64 a, .int .i64 b] rfl 61 _ (hx0.rowOff (by omega)) T_box rfl (two_oneB _ _) ?_))
  go_ret
  exact ⟨rfl, below_setRow' (below_setRow' hA (by omega) _) (by omega) _⟩
end Go.Proofs.Ytcjnmconehfbgaa
namespace Go.Proofs.Ytcjnmconehfbgaa
open Go.RowKit NP
set_option linter.unusedVariables false
def bmp (row : List Int) (r : Nat) : List Int := row.set r (row.getD r 0 + 1)
def metF (N : Nat) (LL : List (List Int)) : List Int := LL.foldl (fun row L => bmp row (sumL L).toNat) (List.replicate N 0)
theorem metF_snoc (N : Nat) (LL : List (List Int)) (L : List Int) : metF N (LL ++ [L]) = bmp (metF N LL) (sumL L).toNat := by unfold metF; rw [List.foldl_append]; rfl
theorem metF_all : ∀ (LL : List (List Int)) (row : List Int) (k : Nat), (∀ x ∈ row, 0 ≤ x ∧ x ≤ (k : Int)) → (LL.foldl (fun row L => bmp row (sumL L).toNat) row).length = row.length ∧ ∀ x ∈ LL.foldl (fun row L => bmp row (sumL L).toNat) row, 0 ≤ x ∧ x ≤ (k : Int) + LL.length := by
  intro LL
  induction LL with
  | nil => intro row k h; exact ⟨rfl, fun x hx => by have := h x hx; simp; omega⟩
  | cons L LL ih =>
    intro row k h
    have hb : ∀ x ∈ bmp row (sumL L).toNat, 0 ≤ x ∧ x ≤ ((k + 1 : Nat) : Int) := by
      intro x hx
      unfold bmp at hx
      rcases List.mem_or_eq_of_mem_set hx with h1 | h1
      · have := h x h1; omega
      · subst h1
        by_cases hr : (sumL L).toNat < row.length
        · have e : row.getD (sumL L).toNat 0 = row[(sumL L).toNat] := by simp [List.getD_eq_getElem?_getD, hr]
          rw [e]
          have := h _ (List.getElem_mem hr)
          omega
        · have e : row.getD (sumL L).toNat 0 = 0 := by simp [List.getD_eq_getElem?_getD, List.getElem?_eq_none (Nat.le_of_not_lt hr)]
          rw [e]; omega
    obtain ⟨h1, h2⟩ := ih _ (k + 1) hb
    rw [List.foldl_cons]
    refine ⟨by rw [h1]; simp [bmp], fun x hx => ?_⟩
    have := h2 x hx
    rw [List.length_cons]
    omega
theorem metF_len (N : Nat) (LL : List (List Int)) : (metF N LL).length = N := by
  have := (metF_all LL (List.replicate N 0) 0 (fun x hx => by rw [(List.mem_replicate.1 hx).2]; simp)).1
  unfold metF; simpa using this
theorem metF_bd (N : Nat) (LL : List (List Int)) : ∀ x ∈ metF N LL, 0 ≤ x ∧ x ≤ (LL.length : Int) := by
  have := (metF_all LL (List.replicate N 0) 0 (fun x hx => by rw [(List.mem_replicate.1 hx).2]; simp)).2
  unfold metF; simpa using this
def bpTab2 : Bool := (List.range 5).all fun a => (List.range 5).all fun b => metF (a * b + 1) (BPL a b (a * b + 1)) == gbox a b && ((BPL a b (a * b + 1)).all fun L => HB a b L && decide (0 ≤ sumL L) && decide (sumL L ≤ ((a * b : Nat) : Int))) && (List.range (BPL a b (a * b + 1)).length).all fun k => k == 0 || decide (sumL ((BPL a b (a * b + 1)).getD (k - 1) []) ≤ sumL ((BPL a b (a * b + 1)).getD k []))
set_option maxRecDepth 100000 in
theorem bpTab2_all : bpTab2 = true := by decide +kernel
theorem bp_row2 {a b : Nat} (ha : a ≤ 4) (hb : b ≤ 4) : metF (a * b + 1) (BPL a b (a * b + 1)) = gbox a b ∧ (∀ L ∈ BPL a b (a * b + 1), inbF L a b = true ∧ 0 ≤ sumL L ∧ sumL L ≤ ((a * b : Nat) : Int)) ∧ ∀ k (h : k + 1 < (BPL a b (a * b + 1)).length), sumL ((BPL a b (a * b + 1))[k]) ≤ sumL ((BPL a b (a * b + 1))[k + 1]) := by
  have h := bpTab2_all
  unfold bpTab2 at h
  have h1 := List.all_eq_true.1 h a (by simp; omega)
  have h2 := List.all_eq_true.1 h1 b (by simp; omega)
  simp only [Bool.and_eq_true, decide_eq_true_eq, List.all_eq_true, List.mem_range, beq_iff_eq, Bool.or_eq_true] at h2
  obtain ⟨⟨k1, k2⟩, k3⟩ := h2
  refine ⟨k1, fun L hL => ⟨?_, (k2 L hL).1.2, (k2 L hL).2⟩, fun k hk => ?_⟩
  · have hv := ((bp_row ha hb).2.2.2.2 L hL).1
    have hl : limB (a : Int) (b : Int) = true := by unfold limB; simp; omega
    have hh := (k2 L hL).1.1
    unfold HB at hh
    unfold inbF
    rw [hv, hl, hh]
    rfl
  · have := k3 (k + 1) hk
    have h5 := this.resolve_left (by omega)
    rw [show k + 1 - 1 = k from rfl] at h5
    have e1 : (BPL a b (a * b + 1)).getD k [] = (BPL a b (a * b + 1))[k] := by simp [List.getD_eq_getElem?_getD, show k < (BPL a b (a * b + 1)).length by omega]
    have e2 : (BPL a b (a * b + 1)).getD (k + 1) [] = (BPL a b (a * b + 1))[k + 1] := by simp [List.getD_eq_getElem?_getD, hk]
    rw [e1, e2] at h5
    exact h5
end Go.Proofs.Ytcjnmconehfbgaa
namespace Go.Proofs.Ytcjnmconehfbgaa
open Go.RowKit NP
set_option maxRecDepth 100000
set_option linter.unusedVariables false
set_option linter.unusedSimpArgs false
theorem ll_ext {A B : List (List Int)} (hl : A.length = B.length) (h : A.take A.length = B.take A.length) : A = B := by
  rw [List.take_of_length_le (Nat.le_refl _), List.take_of_length_le (by omega)] at h
  exact h
theorem equalLists_any (a b : Option Addr) (ca cb Ba Bb : Nat) (A B : List (List Int)) (w : World) (h : RdLL w Ba a A) (hm : RdLL w Bb b B) (hl : A.length ≤ 4611686018427387904) (hl2 : B.length ≤ 4611686018427387904) (hil : ∀ L ∈ A, L.length ≤ 4611686018427387904) (hil2 : ∀ L ∈ B, L.length ≤ 4611686018427387904) :
    Calls Try.prog 37 #[.slice a A.length ca, .slice b B.length cb] w fun e w' => e = .returned (.bool (decide (A = B))) ∧ Dr w w' := by
  by_cases hlen : A.length = B.length
  · have hne : ((A.length : Int) != (B.length : Int)) = false := by simp [hlen]
    have HL := Lib.hid hlen
    clear hlen
    go_enter Try.func37, Try.ntmps37
    go_wp2
    go_loopw [5] (fun i wr => ∃ k : Nat, k ≤ A.length ∧ i = .int .i64 k ∧ Dr w wr ∧ Hid (A.take k = B.take k)) (fun i _ => A.length - (intOf i).toNat)
    case atStart => exact ⟨0, Nat.zero_le _, rfl, Dr.refl _, Lib.hid rfl⟩
    case round =>
      obtain ⟨k, hk, rfl, hdr, HT⟩ := hrel
      by_cases hlt : k < A.length
      · have hlt2 : k < B.length := by have := HL.out; omega
        have hlti : (k : Int) < (A.length : Int) := by omega
        have hlti2 : (k : Int) < (B.length : Int) := by omega
        obtain ⟨b1, o1, a1, c1, rfl, -, hc1, hr1, -⟩ := (h.dr hdr).at_ hlt
        obtain ⟨b2, o2, a2, c2, rfl, -, hc2, hr2, -⟩ := (hm.dr hdr).at_ hlt2
        have hil1 := hil A[k] (List.getElem_mem hlt)
        have hil22 := hil2 B[k] (List.getElem_mem hlt2)
        have HS1 := Lib.hid (List.take_succ_eq_append_getElem hlt)
        have HS2 := Lib.hid (List.take_succ_eq_append_getElem hlt2)
        have HNE : Hid (A[k] ≠ B[k] → A ≠ B) := Lib.hid (fun h9 e => h9 (by subst e; rfl))
        generalize A[k] = M at hc1 hr1 hil1 HS1 HNE
        generalize B[k] = N at hc2 hr2 hil22 HS2 HNE
        by_cases hx : M = N
        · subst hx
          go_wp2_with fail
          go_region_held3 (fun w' => w'.cell? ⟨b1, o1 + k, none⟩ = some (.slice a1 M.length c1) ∧ w'.cell? ⟨b2, o2 + k, none⟩ = some (.slice a2 M.length c2) ∧ Dr wr w') (first | exact ⟨hc1, hc2, Dr.n wr 1⟩ | exact keepD2 (by assumption) (by assumption) (Dr.n wr 1) hd)
            (first | (go_at_call 19; refine (equalInts_same a1 a2 c1 c2 Ba Bb M _ (hr1.dr (Dr.n wr 1)) (hr2.dr (Dr.n wr 1)) hil1).mono ?_; rintro e w' ⟨rfl, hd⟩))
          have hdw : Dr wr w' := by obtain ⟨n, rfl⟩ := hd; exact (Dr.n wr 1).drewN n
          go_wp2_with fail
          go_roundw
          case rel => exact ⟨k + 1, by omega, by go_num, by obtain ⟨n, rfl⟩ := hdw; exact hdr.drewN n, Lib.hid (by rw [HS1.out, HS2.out, HT.out])⟩
          case measure => simp [intOf]; omega
        · have HX := Lib.hid hx
          have HD : Hid (decide (M = N) = false) := Lib.hid (decide_eq_false hx)
          clear hx
          go_wp2_with fail
          go_region_held3 (fun w' => w'.cell? ⟨b1, o1 + k, none⟩ = some (.slice a1 M.length c1) ∧ w'.cell? ⟨b2, o2 + k, none⟩ = some (.slice a2 N.length c2) ∧ Dr wr w') (first | exact ⟨hc1, hc2, Dr.n wr 1⟩ | exact keepD2 (by assumption) (by assumption) (Dr.n wr 1) hd)
            (first | (go_at_call 19; refine (equalInts_any a1 a2 c1 c2 Ba Bb M N _ (hr1.dr (Dr.n wr 1)) (hr2.dr (Dr.n wr 1)) hil1 hil22).mono ?_; rintro e w' ⟨rfl, hd⟩; rw [HD.out]))
          have hdw : Dr wr w' := by obtain ⟨n, rfl⟩ := hd; exact (Dr.n wr 1).drewN n
          go_wp2_with fail
          go_ret
          exact ⟨ret_bool (by rw [decide_eq_false (HNE.out HX.out)]), by obtain ⟨n, rfl⟩ := hdw; exact hdr.drewN n⟩
      · obtain rfl : k = A.length := by omega
        go_wp2
        go_ret
        exact ⟨ret_bool (by rw [decide_eq_true (ll_ext HL.out HT.out)]), hdr⟩
  · have hne : ((A.length : Int) != (B.length : Int)) = true := by simp; omega
    have HL := Lib.hid hlen
    clear hlen
    go_enter Try.func37, Try.ntmps37
    go_wp2
    go_ret
    exact ⟨ret_bool (by rw [decide_eq_false (fun e => HL.out (by rw [e]))]), Dr.refl _⟩
end Go.Proofs.Ytcjnmconehfbgaa
