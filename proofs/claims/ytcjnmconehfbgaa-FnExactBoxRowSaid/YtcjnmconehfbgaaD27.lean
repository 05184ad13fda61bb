/-
  Walks: the draws of a number and a divisor, whether all numbers are one.
-/
import Derived.Test.YtcjnmconehfbgaaC5
import Derived.Test.YtcjnmconehfbgaaL1
import Derived.Test.YtcjnmconehfbgaaW107
namespace Go.Proofs.Ytcjnmconehfbgaa
open Go.RowKit NP
set_option maxRecDepth 8000
set_option linter.unusedVariables false
set_option linter.unusedSimpArgs false
theorem drCell {w w' : World} {p : Addr} {v : Value} (h : Dr w w') (hc : w.cell? p = some v) : w'.cell? p = some v := by
  obtain ⟨n, rfl⟩ := h
  exact hc
theorem DrawRankSpread_any (a : Option Addr) (c B : Nat) (bs : List Int) (w : World) (h : Rd w B a (bs.map (Value.int .u8))) (hB : B ≤ w.heap.size) (hb : ∀ n ∈ bs, (Lit.int .u8 n).wf = true) (hl : bs.length ≤ 1048576) (hc : bs.length ≤ c) :
    Calls Try.prog 18 #[.slice a bs.length c] w fun e w' => ∃ x y : Int, e = .returned (.tuple #[.int .i64 x, .int .i64 y]) ∧ (-1000 ≤ x ∧ x ≤ 1000) ∧ (-1000 ≤ y ∧ y ≤ 1000) ∧ Below w.heap.size w w' := by
  go_enter Try.func18, Try.ntmps18
  go_wp2_with fail
  refine (newReader_any _ _ B bs _ h hB hb hl hc).mono ?_
  rintro e w1 ⟨rfl, h1, hb1, -⟩
  go_wp2_with fail
  refine (one_any w.heap.size 0 _ _ _ [4, 9, 5, 12, 6, 8, 3, 1, 0, 7, 13, -1] _ _ (by simp) (by simp) (by omega) (h1.below ((Below.refl _ _).alloc h1.lt _)) (rd_new w1 _ _) (by intro b o e; injection e with e; injection e with e; have := h1.lt; omega)).mono ?_
  rintro e w2 ⟨k, hk, rfl, h2, hg2, -⟩
  have hx : ∀ x ∈ ([4, 9, 5, 12, 6, 8, 3, 1, 0, 7, 13, -1] : List Int), -1000 ≤ x ∧ x ≤ 1000 := by intro x hx; simp only [List.mem_cons, List.not_mem_nil, or_false] at hx; omega
  have hx2 := hx _ (List.getElem_mem hk)
  obtain ⟨x2, hxx⟩ : ∃ x, x = ([4, 9, 5, 12, 6, 8, 3, 1, 0, 7, 13, -1] : List Int)[k] := ⟨_, rfl⟩
  rw [← hxx] at hx2 ⊢
  clear hx hxx hk
  have hb2 : Below w.heap.size w w2 := chg_low2 (hb1.alloc hb1.size _) (Nat.le_refl _) hg2
  clear hg2
  go_wp2_with fail
  refine (one_any w.heap.size 1 _ _ _ [5, 7, 11, 2, 3, 1, 5, 7, 16, 0, 17] _ _ (by simp) (by simp) (by omega) (h2.below ((Below.refl _ _).alloc h2.lt _)) (rd_new w2 _ _) (by intro b o e; injection e with e; injection e with e; have := h2.lt; omega)).mono ?_
  rintro e w3 ⟨k, hk, rfl, h3, hg3, -⟩
  have hx : ∀ x ∈ ([5, 7, 11, 2, 3, 1, 5, 7, 16, 0, 17] : List Int), -1000 ≤ x ∧ x ≤ 1000 := by intro x hx; simp only [List.mem_cons, List.not_mem_nil, or_false] at hx; omega
  have hx3 := hx _ (List.getElem_mem hk)
  obtain ⟨x3, hxx⟩ : ∃ x, x = ([5, 7, 11, 2, 3, 1, 5, 7, 16, 0, 17] : List Int)[k] := ⟨_, rfl⟩
  rw [← hxx] at hx3 ⊢
  clear hx hxx hk
  have hb3 : Below w.heap.size w w3 := chg_low2 (hb2.alloc hb2.size _) (Nat.le_refl _) hg3
  clear hg3
  go_wp2_with fail
  go_ret2
  exact ⟨x2, x3, rfl, hx2, hx3, hb3⟩
theorem DrawCrankSpread_any (a : Option Addr) (c B : Nat) (bs : List Int) (w : World) (h : Rd w B a (bs.map (Value.int .u8))) (hB : B ≤ w.heap.size) (hb : ∀ n ∈ bs, (Lit.int .u8 n).wf = true) (hl : bs.length ≤ 1048576) (hc : bs.length ≤ c) :
    Calls Try.prog 25 #[.slice a bs.length c] w fun e w' => ∃ x y : Int, e = .returned (.tuple #[.int .i64 x, .int .i64 y]) ∧ (-1000 ≤ x ∧ x ≤ 1000) ∧ (-1000 ≤ y ∧ y ≤ 1000) ∧ Below w.heap.size w w' := by
  go_enter Try.func25, Try.ntmps25
  go_wp2_with fail
  refine (DrawRankSpread_any _ _ B bs _ h hB hb hl hc).mono ?_
  rintro e w1 ⟨x, y, rfl, hx, hy, hb1⟩
  go_wp2_with fail
  go_ret2
  exact ⟨x, y, rfl, hx, hy, hb1⟩
set_option maxHeartbeats 4000000 in
theorem allSame_yes (a : Option Addr) (c B : Nat) (L : List Int) (x : Int) (w : World) (h : Rd w B a (ints L)) (hx : ∀ k (hk : k < L.length), L[k] = x) (hl : L.length ≤ 1000) :
    Calls Try.prog 22 #[.slice a L.length c] w fun e w' => e = .returned (.bool true) ∧ Dr w w' := by
  have HX := Lib.hid hx
  clear hx
  go_enter Try.func22, Try.ntmps22
  go_wp2_with fail
  go_loopw [3] (fun i wr => ∃ k : Nat, 1 ≤ k ∧ (k ≤ L.length ∨ k = 1) ∧ i = .int .i64 k ∧ Dr w wr) (fun i _ => L.length - (intOf i).toNat)
  case atStart => exact ⟨1, Nat.le_refl _, .inr rfl, rfl, Dr.refl _⟩
  case round =>
    obtain ⟨k, hk1, hk, rfl, hd⟩ := hrel
    by_cases hlt : k < L.length
    · obtain ⟨b, o, rfl, hbB, hc0⟩ := h.at_ (show 0 < L.length by omega)
      have hall : ∀ j (hj : j < L.length), wr.cell? ⟨b, o + j, none⟩ = some (.int .i64 x) := fun j hj => by
        obtain ⟨b', o', e1, -, h2⟩ := (h.dr hd).at_ hj
        injection e1 with e1; injection e1 with e1 e2; subst e1 e2
        have h3 := HX.out j hj
        rw [h2]; simp [h3]
      have hck := hall k hlt
      have hc0' : wr.cell? ⟨b, o, none⟩ = some (.int .i64 x) := hall 0 (by omega)
      clear hall hc0
      have hL0 : 0 < L.length := by omega
      have hmx : Try.prog.follows .mixedOrders = true := by kernel_rfl
      go_wp2_with fail
      refine wp_region_vals [0, 1, 2, 3, 4, 5, 6, 7] [.slice (some ⟨b, o, none⟩) L.length c, .int .i64 k, .pointer (some ⟨b, o + k, none⟩), .int .i64 x, .slice (some ⟨b, o, none⟩) L.length c, .pointer (some ⟨b, o, none⟩), .int .i64 x, .bool false] (fun w' => Dr wr w') _ hmx (fun _ h => h) rfl rfl (by kernel_rfl) (by kernel_rfl) rfl ?steps ?rest
      case steps =>
        simp only [putsOfG, Act.put, List.getElem?_toArray, List.getElem?_cons_succ, List.getElem?_cons_zero, Option.bind_some, Nat.reduceAdd, List.setIfInBounds_toArray, List.set_cons_zero, List.set_cons_succ]
        refine StepsG.cons rfl rfl (fun wq hS => ?_) ?_
        · have c1 := drCell hS hck
          have c2 := drCell hS hc0'
          go_simp
        refine StepsG.cons rfl rfl (fun wq hS => ?_) ?_
        · have c1 := drCell hS hck
          have c2 := drCell hS hc0'
          go_simp
        refine StepsG.cons rfl rfl (fun wq hS => ?_) ?_
        · have c1 := drCell hS hck
          have c2 := drCell hS hc0'
          go_simp
        refine StepsG.cons rfl rfl (fun wq hS => ?_) ?_
        · have c1 := drCell hS hck
          have c2 := drCell hS hc0'
          go_simp
        refine StepsG.cons rfl rfl (fun wq hS => ?_) ?_
        · have c1 := drCell hS hck
          have c2 := drCell hS hc0'
          go_simp
        refine StepsG.cons rfl rfl (fun wq hS => ?_) ?_
        · have c1 := drCell hS hck
          have c2 := drCell hS hc0'
          go_simp
        refine StepsG.cons rfl rfl (fun wq hS => ?_) ?_
        · have c1 := drCell hS hck
          have c2 := drCell hS hc0'
          go_simp
        refine StepsG.cons rfl rfl (fun wq hS => ?_) ?_
        · have c1 := drCell hS hck
          have c2 := drCell hS hc0'
          go_simp
        exact StepsG.nil
      case rest =>
        intro wq hS
        simp only [putsOfG, Act.put, List.getElem?_toArray, List.getElem?_cons_succ, List.getElem?_cons_zero, Option.bind_some, Nat.reduceAdd, List.setIfInBounds_toArray, List.set_cons_zero, List.set_cons_succ]
        go_wp2_with fail
        go_roundw
        case rel => exact ⟨k + 1, by omega, .inl (by omega), by go_num, hd.trans hS⟩
        case measure => simp [intOf]; omega
    · clear h
      go_wp2_with fail
      go_ret
      exact ⟨rfl, hd⟩
end Go.Proofs.Ytcjnmconehfbgaa
