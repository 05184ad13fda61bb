/-
  Walks: the model's row of a box. Walks of the program: all parts in a box, by their sums. Plain mathematics: how many parts of each sum are in a box, by a table. Walks: whether the sides of a box are in limits, of the model. Walks: the draws of chapter 4. Walks: how many parts of each sum are in a box. Walks: draws of boxes. Walks: the draws of two sides, how many ways to choose. Plain mathematics of diagonals. Plain mathematics of the promise of diagonals. Walks: mirrored of the laws.
-/
import Derived.Test.YtcjnmconehfbgaaZBXR1
import Derived.Test.YtcjnmconehfbgaaZBXR2
import Derived.Test.YtcjnmconehfbgaaZBXR3
import Derived.Test.YtcjnmconehfbgaaZBXR4
import Derived.Test.YtcjnmconehfbgaaZBXR5
import Derived.OwnWalk
import Derived.Deep.RegionHeld3
namespace Go.Proofs.Ytcjnmconehfbgaa
open Go.RowKit NP
set_option maxRecDepth 8000
set_option linter.unusedVariables false
set_option linter.unusedSimpArgs false
/-- what lies between lo and the end of w2 is the same in w' -/
def Kb (w2 w' : World) (lo : Nat) : Prop := w2.heap.size ≤ w'.heap.size ∧ ∀ g, lo ≤ g → g < w2.heap.size → w'.heap[g]? = w2.heap[g]?
theorem Kb.dr {w2 w w' : World} {lo : Nat} (h : Kb w2 w lo) (hb : Dr w w') : Kb w2 w' lo := by
  obtain ⟨n, rfl⟩ := hb
  exact h
theorem Kb.off {w2 w : World} {lo : Nat} (h : Kb w2 w lo) (g : Nat) (hg : g < lo) (i : Nat) (u : Value) : Kb w2 (w.setCell ⟨g, i, none⟩ u) lo :=
  ⟨by simp [World.setCell]; exact h.1, fun k h1 h2 => (Below.heap_setCell w ⟨g, i, none⟩ u k (by show k ≠ g; omega)).trans (h.2 k h1 h2)⟩
theorem Own.kb {w2 w : World} {lo hi : Nat} {e : TypeId} {v : Value} {vs : List Value} (h : Own w2 lo hi e v vs) (k : Kb w2 w lo) : Own w lo hi e v vs :=
  h.keep k.1 fun g hg => k.2 g (h.base g hg) (Nat.lt_of_lt_of_le (h.lt g hg) h.le)
theorem ret_one (w : World) : ∃ a' c', Ending.returned (.slice (some ⟨w.heap.size, 0, none⟩) 1 1) = Ending.returned (.slice a' ([1] : List Int).length c') ∧ Own (w.alloc (.cells #[.int .i64 1] 3)) w.heap.size (w.alloc (.cells #[.int .i64 1] 3)).heap.size 3 (.slice a' ([1] : List Int).length c') (ints [1]) ∧ Below w.heap.size w (w.alloc (.cells #[.int .i64 1] 3)) :=
  ⟨_, 1, rfl, (Blk.new w 3 (ints [1]).toArray).own (Nat.le_refl _) (by simp [maxLen]), (Below.refl _ _).alloc (Nat.le_refl _) _⟩
set_option maxRecDepth 100000 in
set_option maxHeartbeats 4000000 in
theorem boxRow_any : ∀ (s a b : Nat) (w : World), a + b ≤ s → a ≤ 4 → b ≤ 4 →
    Calls Try.prog 56 #[.int .i64 (a : Int), .int .i64 (b : Int)] w fun e w' => ∃ a' c', e = .returned (.slice a' (gbox a b).length c') ∧ Own w' w.heap.size w'.heap.size 3 (.slice a' (gbox a b).length c') (ints (gbox a b)) ∧ Below w.heap.size w w' := by
  intro s
  induction s with
  | zero =>
    intro a b w hs ha hb
    obtain rfl : a = 0 := by omega
    have hz : gbox 0 b = [1] := gbox_zero 0 b (.inl rfl)
    rw [hz]
    go_enter Try.func56, Try.ntmps56
    go_wp2_with fail
    all_goals (go_ret; exact ret_one w)
  | succ s ih =>
    intro a b w hs ha hb
    by_cases h0 : a = 0
    · subst h0
      have hz : gbox 0 b = [1] := gbox_zero 0 b (.inl rfl)
      rw [hz]
      go_enter Try.func56, Try.ntmps56
      go_wp2_with fail
      all_goals (go_ret; exact ret_one w)
    have ea : ((a : Int) == 0) = false := beq_eq_false_iff_ne.2 (by omega)
    by_cases h1 : b = 0
    · subst h1
      have hz : gbox a 0 = [1] := gbox_zero a 0 (.inr rfl)
      rw [hz]
      go_enter Try.func56, Try.ntmps56
      go_wp2_with fail
      all_goals (go_ret; exact ret_one w)
    have eb : ((b : Int) == 0) = false := beq_eq_false_iff_ne.2 (by omega)
    obtain ⟨a1, rfl⟩ : ∃ k, a = k + 1 := ⟨a - 1, by omega⟩
    obtain ⟨b1, rfl⟩ : ∃ k, b = k + 1 := ⟨b - 1, by omega⟩
    obtain ⟨p, hp⟩ : ∃ p, (a1 + 1) * (b1 + 1) = p := ⟨_, rfl⟩
    have hp16 : p ≤ 16 := by rw [← hp]; exact Nat.le_trans (Nat.mul_le_mul ha hb) (by omega)
    have hpi : ((a1 + 1 : Nat) : Int) * ((b1 + 1 : Nat) : Int) = (p : Int) := by rw [← Int.natCast_mul, hp]
    have hG := Lib.hid (gbox_next a1 b1)
    rw [hp] at hG
    have hX := gbox_len (a1 + 1) b1
    have hY := gbox_len a1 (b1 + 1)
    have hxp : (a1 + 1) * b1 + 1 ≤ p := by rw [← hp, Nat.mul_succ]; omega
    have hyp : a1 * (b1 + 1) + 1 + b1 + 1 = p + 1 := by rw [← hp, Nat.succ_mul]; omega
    have HBX := Lib.hid (gbox_bd (a := a1 + 1) (b := b1) ha (by omega))
    have HBY := Lib.hid (gbox_bd (a := a1) (b := b1 + 1) (by omega) hb)
    have ih1 := fun w => ih (a1 + 1) b1 w (by omega) ha (by omega)
    have ih2 := fun w => ih a1 (b1 + 1) w (by omega) (by omega) hb
    have HIH := Lib.hid ih
    clear ih hp
    obtain ⟨X, hXX⟩ : ∃ X, gbox (a1 + 1) b1 = X := ⟨_, rfl⟩
    obtain ⟨Y, hYY⟩ : ∃ Y, gbox a1 (b1 + 1) = Y := ⟨_, rfl⟩
    rw [hXX] at hX hG HBX ih1
    rw [hYY] at hY hG HBY ih2
    obtain ⟨Z, hZ⟩ : ∃ Z, List.replicate (p + 1) (0 : Int) = Z := ⟨_, rfl⟩
    obtain ⟨Z2, hZ2⟩ : ∃ Z2, ad Z X 0 X.length = Z2 := ⟨_, rfl⟩
    rw [hZ, hZ2] at hG
    rw [hG.out]
    have HZL : Hid (Z.length = p + 1) := Lib.hid (by rw [← hZ, List.length_replicate])
    have HZ0 : Hid (∀ k (hk : k < Z.length), Z[k] = 0) := Lib.hid (by subst hZ; intro k hk; simp)
    have HZL2 : Hid (Z2.length = p + 1) := Lib.hid (by rw [← hZ2, ad_len, HZL.out])
    have HZB2 : Hid (∀ y ∈ Z2, 0 ≤ y ∧ y ≤ 200) := Lib.hid (by
      rw [← hZ2]
      refine ad_bd Z X 0 X.length 100 100 (fun y hy => ?_) HBX.out (by omega) (by omega)
      obtain ⟨i, hi, rfl⟩ := List.getElem_of_mem hy
      rw [HZ0.out i hi]; omega)
    have HZ := Lib.hid hZ
    have HZ2 := Lib.hid hZ2
    clear hG hXX hYY HIH hZ hZ2
    have hmk : ∀ w, (Instr.makeSlice 22 (.int .i64 ((p : Int) + 1)) (.int .i64 ((p : Int) + 1))).run Try.prog w = .ok (.slice (some ⟨w.heap.size, 0, none⟩) (p + 1) (p + 1)) (w.alloc (.cells (arr Z) 3)) := fun w => by rw [← HZ.out]; exact run_make_ints (P := Try.prog) 22 3 _ Try.underlying22 rfl rfl rfl rfl (p + 1) (by omega) w
    have eA : ((a1 + 1 : Nat) : Int) - 1 = (a1 : Int) := by omega
    have eB : ((b1 + 1 : Nat) : Int) - 1 = (b1 : Int) := by omega
    have hXl : X.length ≤ p := by omega
    have hYl : Y.length + (b1 + 1) = p + 1 := by omega
    clear hX hY hxp hyp
    obtain ⟨A, hAA⟩ : ∃ A, a1 + 1 = A := ⟨_, rfl⟩
    obtain ⟨B, hBB⟩ : ∃ B, b1 + 1 = B := ⟨_, rfl⟩
    rw [hAA] at hpi eA ea ih1 ha hs ⊢
    rw [hBB] at hpi eB eb ih2 hb hs hYl ⊢
    obtain ⟨w1, hw1⟩ : ∃ w1, w1 = w.alloc (.cells (arr Z) 3) := ⟨_, rfl⟩
    have hb1 : Below w.heap.size w w1 := hw1 ▸ (Below.refl _ _).alloc (Nat.le_refl _) _
    have hz1 : w1.heap.size = w.heap.size + 1 := by rw [hw1, World.size_alloc]
    have hB1 : Blk w1 w.heap.size 3 (arr Z) := by rw [hw1]; exact Blk.new w _ _
    have HW1 := Lib.hid hw1
    clear hw1 h0 h1 hAA hBB
    go_enter Try.func56, Try.ntmps56
    go_wp2_with fail
    rw [← HW1.out]
    refine (ih1 w1).mono ?_
    rintro e w2 ⟨aX, cX, rfl, oX, hb2⟩
    have hbw2 : Below w.heap.size w w2 := hb1.trans (hb2.mono (by omega))
    have hB2 : Blk w2 w.heap.size 3 (arr Z) := hB1.below hb2 (by omega)
    have hz2 := hb2.size
    clear hb1 hb2 hB1 hmk HW1
    go_wp2_with fail
    refine (ih2 w2).mono ?_
    rintro e w3 ⟨aY, cY, rfl, oY, hb3⟩
    replace oX := oX.below hb3
    have hbw3 : Below w.heap.size w w3 := hbw2.trans (hb3.mono (by omega))
    have hBZ : Blk w3 w.heap.size 3 (arr Z) := hB2.below hb3 (by omega)
    have hz3 := hb3.size
    replace oX := (oX.lower (lo' := w.heap.size + 1) (by omega))
    replace oY := (oY.lower (lo' := w.heap.size + 1) (by omega))
    clear hbw2 hB2 hb3
    have hKb : Kb w3 w3 (w.heap.size + 1) := ⟨Nat.le_refl _, fun _ _ _ => rfl⟩
    have hmx : Try.prog.follows .mixedOrders = true := by kernel_rfl
    go_wp2_with fail
    go_loopw [8] (fun ii wr => ∃ k : Nat, ii = .int .i64 (k : Int) ∧ k ≤ X.length ∧ Blk wr w.heap.size 3 (arr (ad Z X 0 k)) ∧ Kb w3 wr (w.heap.size + 1) ∧ Below w.heap.size w wr) (fun ii _ => X.length - (intOf ii).toNat)
    case atStart => exact ⟨0, rfl, Nat.zero_le _, by rw [ad_zero]; exact hBZ, hKb, hbw3⟩
    case round =>
      obtain ⟨k, rfl, hk, hblk, hkb, hbel⟩ := hrel
      by_cases hlt : k < X.length
      · have hox := oX.kb hkb
        obtain ⟨gX, rfl, hcx⟩ := hox.read (k := k) (by simpa using hlt)
        rw [List.getElem_map] at hcx
        have hbx := HBX.out _ (List.getElem_mem hlt)
        have hkp : k < Z.length := by rw [HZL.out]; omega
        have hkle : (k : Int) < (p : Int) + 1 := by omega
        have hcz := hblk.cell k
        have hh := ad_here Z X 0 k (by rw [Nat.zero_add]; exact hkp)
        have hst := ad_step Z X 0 k (by rw [Nat.zero_add]; exact hkp) hlt
        simp only [Nat.zero_add] at hh hst
        have hzk : Z[k] = 0 := HZ0.out k hkp
        rw [arr_get _ _ (by rw [ad_len]; exact hkp), hh] at hcz
        obtain ⟨z, hz⟩ : ∃ z, Z[k] = z := ⟨_, rfl⟩
        rw [hz] at hcz hst hzk
        have hz0 : 0 ≤ z ∧ z ≤ 200 := by omega
        clear hh hz hzk
        obtain ⟨x, hx⟩ : ∃ x, X[k] = x := ⟨_, rfl⟩
        rw [hx] at hcx hbx hst
        have hx0 := hbx.1
        have hx1 := hbx.2
        have hz1 := hz0.1
        have hz2 := hz0.2
        have hws : IntKind.i64.wrap (z + x) = z + x := IntWalk.i64_in _ (by omega)
        have hfz := hblk.free k
        have hne : gX ≠ w.heap.size := by have := hox.base gX rfl; omega
        have HST := Lib.hid hst
        clear hx hbx hst
        go_wp2_with fail
        refine wp_region_store [0, 1, 2, 3, 4, 5, 6, 7, 8, 9, 10, 11] [.slice (some ⟨w.heap.size, 0, none⟩) (p + 1) (p + 1), .int .i64 k, .slice (some ⟨w.heap.size, 0, none⟩) (p + 1) (p + 1), .int .i64 k, .pointer (some ⟨w.heap.size, k, none⟩), .int .i64 z, .slice (some ⟨gX, 0, none⟩) X.length cX, .int .i64 k, .pointer (some ⟨gX, k, none⟩), .int .i64 x, .int .i64 (z + x), .pointer (some ⟨w.heap.size, k, none⟩)] (fun w' => Dr wr w') _ hmx (fun _ h => h) rfl (by kernel_rfl) (by kernel_rfl) rfl rfl (by kernel_rfl) (by kernel_rfl) _ rfl rfl rfl 3 _ _ rfl ⟨w.heap.size, k, none⟩ (.int .i64 (z + x)) ?hx ?hy ?run ?steps ?rest
        case hx => simp only [putsOfG, Act.put, List.getElem?_toArray, List.getElem?_cons_succ, List.getElem?_cons_zero, Option.bind_some, Nat.reduceAdd, List.setIfInBounds_toArray, List.set_cons_zero, List.set_cons_succ]; rfl
        case hy => simp only [putsOfG, Act.put, List.getElem?_toArray, List.getElem?_cons_succ, List.getElem?_cons_zero, Option.bind_some, Nat.reduceAdd, List.setIfInBounds_toArray, List.set_cons_zero, List.set_cons_succ]; rfl
        case run =>
          intro wq hS
          have s1 := drCell hS hcz
          have s3 : wq.frozen? ⟨w.heap.size, k, none⟩ = false := by obtain ⟨n, rfl⟩ := hS; exact hfz
          go_simp
        case steps =>
          simp only [putsOfG, Act.put, List.getElem?_toArray, List.getElem?_cons_succ, List.getElem?_cons_zero, Option.bind_some, Nat.reduceAdd, List.setIfInBounds_toArray, List.set_cons_zero, List.set_cons_succ]
          refine StepsG.cons rfl rfl (fun wq hS => ?_) ?_
          · have s1 := drCell hS hcz
            have s2 := drCell hS hcx
            go_simp
          refine StepsG.cons rfl rfl (fun wq hS => ?_) ?_
          · have s1 := drCell hS hcz
            have s2 := drCell hS hcx
            go_simp
          refine StepsG.cons rfl rfl (fun wq hS => ?_) ?_
          · have s1 := drCell hS hcz
            have s2 := drCell hS hcx
            go_simp
          refine StepsG.cons rfl rfl (fun wq hS => ?_) ?_
          · have s1 := drCell hS hcz
            have s2 := drCell hS hcx
            go_simp
          refine StepsG.cons rfl rfl (fun wq hS => ?_) ?_
          · have s1 := drCell hS hcz
            have s2 := drCell hS hcx
            go_simp
          refine StepsG.cons rfl rfl (fun wq hS => ?_) ?_
          · have s1 := drCell hS hcz
            have s2 := drCell hS hcx
            go_simp
          refine StepsG.cons rfl rfl (fun wq hS => ?_) ?_
          · have s1 := drCell hS hcz
            have s2 := drCell hS hcx
            go_simp
          refine StepsG.cons rfl rfl (fun wq hS => ?_) ?_
          · have s1 := drCell hS hcz
            have s2 := drCell hS hcx
            go_simp
          refine StepsG.cons rfl rfl (fun wq hS => ?_) ?_
          · have s1 := drCell hS hcz
            have s2 := drCell hS hcx
            go_simp
          refine StepsG.cons rfl rfl (fun wq hS => ?_) ?_
          · have s1 := drCell hS hcz
            have s2 := drCell hS hcx
            go_simp
          refine StepsG.cons rfl rfl (fun wq hS => ?_) ?_
          · have s1 := drCell hS hcz
            have s2 := drCell hS hcx
            go_simp
          refine StepsG.cons rfl rfl (fun wq hS => ?_) ?_
          · have s1 := drCell hS hcz
            have s2 := drCell hS hcx
            go_simp
          exact StepsG.nil
        case rest =>
          intro wq hS
          simp only [putsOfG, Act.put, List.getElem?_toArray, List.getElem?_cons_succ, List.getElem?_cons_zero, Option.bind_some, Nat.reduceAdd, List.setIfInBounds_toArray, List.set_cons_zero, List.set_cons_succ]
          go_wp2_with fail
          go_roundw
          case rel =>
            have hbq := hS.below wr.heap.size
            refine ⟨k + 1, by go_num, by omega, ?_, (hkb.dr hS).off w.heap.size (by omega) _ _, (hbel.trans (hS.below _)).setCell (p := ⟨w.heap.size, k, none⟩) (Nat.le_refl _) _⟩
            rw [← HST.out, ← arr_set]
            exact (hblk.below hbq hblk.lt).set _ _
          case measure => simp [intOf] <;> omega
      · obtain rfl : k = X.length := by omega
        have hBZ2 : Blk wr w.heap.size 3 (arr Z2) := by rw [← HZ2.out]; exact hblk
        replace oY := oY.kb hkb
        replace hbw3 := hbel
        obtain ⟨w4, rfl⟩ : ∃ wx : World, wx = wr := ⟨_, rfl⟩
        clear hblk hkb hbel hBZ hKb oX HZ0 HZL
        have hKb : Kb w4 w4 (w.heap.size + 1) := ⟨Nat.le_refl _, fun _ _ _ => rfl⟩
        go_wp2_with fail
        go_loopw [9] (fun ii wr => ∃ k : Nat, ii = .int .i64 (k : Int) ∧ k ≤ Y.length ∧ Blk wr w.heap.size 3 (arr (ad Z2 Y B k)) ∧ Kb w4 wr (w.heap.size + 1) ∧ Below w.heap.size w wr) (fun ii _ => Y.length - (intOf ii).toNat)
        case atStart => exact ⟨0, rfl, Nat.zero_le _, by rw [ad_zero]; exact hBZ2, hKb, hbw3⟩
        case round =>
          obtain ⟨k, rfl, hk, hblk, hkb, hbel⟩ := hrel
          by_cases hlt : k < Y.length
          · have hox := oY.kb hkb
            obtain ⟨gX, rfl, hcx⟩ := hox.read (k := k) (by simpa using hlt)
            rw [List.getElem_map] at hcx
            have hbx := HBY.out _ (List.getElem_mem hlt)
            have hkp : B + k < Z2.length := by rw [HZL2.out]; omega
            have hcz := hblk.cell (B + k)
            have hh := ad_here Z2 Y B k hkp
            have hst := ad_step Z2 Y B k hkp hlt
            rw [arr_get _ _ (by rw [ad_len]; exact hkp), hh] at hcz
            have hz0 : 0 ≤ Z2[B + k] ∧ Z2[B + k] ≤ 200 := HZB2.out _ (List.getElem_mem hkp)
            obtain ⟨z, hz⟩ : ∃ z, Z2[B + k] = z := ⟨_, rfl⟩
            rw [hz] at hcz hst hz0
            clear hh hz
            obtain ⟨d, hd⟩ : ∃ d, B + k = d := ⟨_, rfl⟩
            rw [hd] at hcz hst hkp
            have hdp : (d : Int) < (p : Int) + 1 := by rw [HZL2.out] at hkp; omega
            have hdi : (k : Int) + (B : Int) = (d : Int) := by omega
            have hwd : IntKind.i64.wrap (d : Int) = (d : Int) := IntWalk.i64_in _ (by omega)
            clear hd
            obtain ⟨x, hx⟩ : ∃ x, Y[k] = x := ⟨_, rfl⟩
            rw [hx] at hcx hbx hst
            have hx0 := hbx.1
            have hx1 := hbx.2
            have hz1 := hz0.1
            have hz2 := hz0.2
            have hws : IntKind.i64.wrap (z + x) = z + x := IntWalk.i64_in _ (by omega)
            have hfz := hblk.free d
            have hne : gX ≠ w.heap.size := by have := hox.base gX rfl; omega
            have HST := Lib.hid hst
            clear hx hbx hst
            go_wp2_with fail
            refine wp_region_store [0, 1, 2, 3, 4, 5, 6, 7, 8, 9, 10, 11, 12, 13, 14, 15] [.slice (some ⟨w.heap.size, 0, none⟩) (p + 1) (p + 1), .int .i64 k, .int .i64 B, .int .i64 d, .slice (some ⟨w.heap.size, 0, none⟩) (p + 1) (p + 1), .int .i64 k, .int .i64 B, .int .i64 d, .pointer (some ⟨w.heap.size, d, none⟩), .int .i64 z, .slice (some ⟨gX, 0, none⟩) Y.length cY, .int .i64 k, .pointer (some ⟨gX, k, none⟩), .int .i64 x, .int .i64 (z + x), .pointer (some ⟨w.heap.size, d, none⟩)] (fun w' => Dr wr w') _ hmx (fun _ h => h) rfl (by kernel_rfl) (by kernel_rfl) rfl rfl (by kernel_rfl) (by kernel_rfl) _ rfl rfl rfl 3 _ _ rfl ⟨w.heap.size, d, none⟩ (.int .i64 (z + x)) ?hx ?hy ?run ?steps ?rest
            case hx => simp only [putsOfG, Act.put, List.getElem?_toArray, List.getElem?_cons_succ, List.getElem?_cons_zero, Option.bind_some, Nat.reduceAdd, List.setIfInBounds_toArray, List.set_cons_zero, List.set_cons_succ]; rfl
            case hy => simp only [putsOfG, Act.put, List.getElem?_toArray, List.getElem?_cons_succ, List.getElem?_cons_zero, Option.bind_some, Nat.reduceAdd, List.setIfInBounds_toArray, List.set_cons_zero, List.set_cons_succ]; rfl
            case run =>
              intro wq hS
              have s1 := drCell hS hcz
              have s3 : wq.frozen? ⟨w.heap.size, d, none⟩ = false := by obtain ⟨n, rfl⟩ := hS; exact hfz
              go_simp
            case steps =>
              simp only [putsOfG, Act.put, List.getElem?_toArray, List.getElem?_cons_succ, List.getElem?_cons_zero, Option.bind_some, Nat.reduceAdd, List.setIfInBounds_toArray, List.set_cons_zero, List.set_cons_succ]
              refine StepsG.cons rfl rfl (fun wq hS => ?_) ?_
              · have s1 := drCell hS hcz
                have s2 := drCell hS hcx
                go_simp
              refine StepsG.cons rfl rfl (fun wq hS => ?_) ?_
              · have s1 := drCell hS hcz
                have s2 := drCell hS hcx
                go_simp
              refine StepsG.cons rfl rfl (fun wq hS => ?_) ?_
              · have s1 := drCell hS hcz
                have s2 := drCell hS hcx
                go_simp
              refine StepsG.cons rfl rfl (fun wq hS => ?_) ?_
              · have s1 := drCell hS hcz
                have s2 := drCell hS hcx
                go_simp
              refine StepsG.cons rfl rfl (fun wq hS => ?_) ?_
              · have s1 := drCell hS hcz
                have s2 := drCell hS hcx
                go_simp
              refine StepsG.cons rfl rfl (fun wq hS => ?_) ?_
              · have s1 := drCell hS hcz
                have s2 := drCell hS hcx
                go_simp
              refine StepsG.cons rfl rfl (fun wq hS => ?_) ?_
              · have s1 := drCell hS hcz
                have s2 := drCell hS hcx
                go_simp
              refine StepsG.cons rfl rfl (fun wq hS => ?_) ?_
              · have s1 := drCell hS hcz
                have s2 := drCell hS hcx
                go_simp
              refine StepsG.cons rfl rfl (fun wq hS => ?_) ?_
              · have s1 := drCell hS hcz
                have s2 := drCell hS hcx
                go_simp
              refine StepsG.cons rfl rfl (fun wq hS => ?_) ?_
              · have s1 := drCell hS hcz
                have s2 := drCell hS hcx
                go_simp
              refine StepsG.cons rfl rfl (fun wq hS => ?_) ?_
              · have s1 := drCell hS hcz
                have s2 := drCell hS hcx
                go_simp
              refine StepsG.cons rfl rfl (fun wq hS => ?_) ?_
              · have s1 := drCell hS hcz
                have s2 := drCell hS hcx
                go_simp
              refine StepsG.cons rfl rfl (fun wq hS => ?_) ?_
              · have s1 := drCell hS hcz
                have s2 := drCell hS hcx
                go_simp
              refine StepsG.cons rfl rfl (fun wq hS => ?_) ?_
              · have s1 := drCell hS hcz
                have s2 := drCell hS hcx
                go_simp
              refine StepsG.cons rfl rfl (fun wq hS => ?_) ?_
              · have s1 := drCell hS hcz
                have s2 := drCell hS hcx
                go_simp
              refine StepsG.cons rfl rfl (fun wq hS => ?_) ?_
              · have s1 := drCell hS hcz
                have s2 := drCell hS hcx
                go_simp
              exact StepsG.nil
            case rest =>
              intro wq hS
              simp only [putsOfG, Act.put, List.getElem?_toArray, List.getElem?_cons_succ, List.getElem?_cons_zero, Option.bind_some, Nat.reduceAdd, List.setIfInBounds_toArray, List.set_cons_zero, List.set_cons_succ]
              go_wp2_with fail
              go_roundw
              case rel =>
                have hbq := hS.below wr.heap.size
                refine ⟨k + 1, by go_num, by omega, ?_, (hkb.dr hS).off w.heap.size (by omega) _ _, (hbel.trans (hS.below _)).setCell (p := ⟨w.heap.size, d, none⟩) (Nat.le_refl _) _⟩
                rw [← HST.out, ← arr_set]
                exact (hblk.below hbq hblk.lt).set _ _
              case measure => simp [intOf] <;> omega
          · obtain rfl : k = Y.length := by omega
            go_wp2_with fail
            go_ret
            have hown := hblk.own (lo := w.heap.size) (Nat.le_refl _) (by rw [List.length_map, ad_len, HZL2.out]; unfold maxLen; omega)
            rw [List.length_map] at hown
            have e1 : (ad Z2 Y B Y.length).length = p + 1 := by rw [ad_len, HZL2.out]
            rw [e1] at hown ⊢
            exact ⟨_, p + 1, rfl, hown, hbel⟩
end Go.Proofs.Ytcjnmconehfbgaa
namespace Go.Proofs.Ytcjnmconehfbgaa
open Go.RowKit NP
set_option maxRecDepth 8000
set_option linter.unusedVariables false
set_option linter.unusedSimpArgs false
/-- whether parts are in a box -/
def HB (a b : Nat) (P : List Int) : Bool := decide ((P.length : Int) ≤ (a : Int) ∧ P.headD 0 ≤ (b : Int))
/-- the parts with a sum in a box -/
def LB (a b s : Nat) : List (List Int) := (allQ s s s).filter (HB a b)
theorem holds_isK (a b : Nat) (w : World) : IsK w (.func (.func 81) #[.agg #[.int .i64 (a : Int), .int .i64 (b : Int)]] #[]) (HB a b) :=
  ⟨_, _, _, rfl, enters_of Try.func81 (by kernel_rfl) rfl, fun w1 _ L hL => holds_any a b L hL w1⟩
/-- lists of numbers, each in a block of its own -/
structure InnV (w : World) (lo hi : Nat) (e : TypeId) (us : List Value) (LL : List (List Int)) : Prop where
  len : us.length = LL.length
  inner : ∀ (k : Nat) u L, us[k]? = some u → LL[k]? = some L → Own w lo hi e u (ints L)
  apart : ∀ (j k : Nat) u u' g, us[j]? = some u → us[k]? = some u' → u.ownBlock = some g → u'.ownBlock = some g → j = k
theorem InnV.kb {w w' : World} {lo hi lo' : Nat} {e : TypeId} {us : List Value} {LL : List (List Int)} (h : InnV w lo hi e us LL) (k : Kb w w' lo') (hl : lo' ≤ lo) : InnV w' lo hi e us LL :=
  ⟨h.len, fun j u L hu hL => ((h.inner j u L hu hL).lower (Nat.le_refl _)).keep k.1 fun g hg => k.2 g (Nat.le_trans hl ((h.inner j u L hu hL).base g hg)) (Nat.lt_of_lt_of_le ((h.inner j u L hu hL).lt g hg) (h.inner j u L hu hL).le), h.apart⟩
theorem InnV.nil (w : World) (lo hi : Nat) (e : TypeId) : InnV w lo hi e [] [] := ⟨rfl, fun k u L hu => by simp at hu, fun j k u u' g hu => by simp at hu⟩
theorem OwnLL.innV {w : World} {lo hi : Nat} {eo e : TypeId} {v : Value} {vs : List Value} {LL : List (List Int)} (h : OwnLL w lo hi eo e v vs LL) : InnV w lo hi e vs LL := ⟨h.len, h.inner, h.apart⟩
theorem InnV.append {w : World} {lo mid hi : Nat} {e : TypeId} {us us' : List Value} {LL LL' : List (List Int)} (h : InnV w lo mid e us LL) (h' : InnV w mid hi e us' LL') (hl : lo ≤ mid) (hm : mid ≤ hi) (hw : hi = w.heap.size) : InnV w lo hi e (us ++ us') (LL ++ LL') := by
  subst hw
  have hlen := h.len
  have split : ∀ (k : Nat) (u : Value), (us ++ us')[k]? = some u → (k < us.length ∧ us[k]? = some u) ∨ (us.length ≤ k ∧ us'[k - us.length]? = some u) := fun k u hu => by
    by_cases hk : k < us.length
    · rw [List.getElem?_append_left hk] at hu; exact .inl ⟨hk, hu⟩
    · rw [List.getElem?_append_right (by omega)] at hu; exact .inr ⟨by omega, hu⟩
  have low : ∀ (k : Nat) (u : Value) (g : Nat), us[k]? = some u → u.ownBlock = some g → g < mid := fun k u g hu hg => by
    have hk := (List.getElem?_eq_some_iff.1 hu).1
    have := h.inner k u LL[k] hu (List.getElem?_eq_getElem (by omega))
    exact this.lt g hg
  have high : ∀ (k : Nat) (u : Value) (g : Nat), us'[k]? = some u → u.ownBlock = some g → mid ≤ g := fun k u g hu hg => by
    have hk := (List.getElem?_eq_some_iff.1 hu).1
    have hl' := h'.len
    have := h'.inner k u LL'[k] hu (List.getElem?_eq_getElem (by omega))
    exact this.base g hg
  refine ⟨by rw [List.length_append, List.length_append, h.len, h'.len], fun k u L hu hL => ?_, fun j k u u' g hu hu' hg hg' => ?_⟩
  · rcases split k u hu with ⟨hk, hu1⟩ | ⟨hk, hu1⟩
    · rw [List.getElem?_append_left (by omega)] at hL
      exact (h.inner k u L hu1 hL).more
    · rw [List.getElem?_append_right (by omega), ← hlen] at hL
      exact (h'.inner _ u L hu1 hL).lower hl
  · rcases split j u hu with ⟨hj, hu1⟩ | ⟨hj, hu1⟩ <;> rcases split k u' hu' with ⟨hk, hu2⟩ | ⟨hk, hu2⟩
    · exact h.apart j k u u' g hu1 hu2 hg hg'
    · have h1 := low j u g hu1 hg; have h2 := high _ u' g hu2 hg'; omega
    · have h1 := low k u' g hu2 hg'; have h2 := high _ u g hu1 hg; omega
    · have := h'.apart _ _ u u' g hu1 hu2 hg hg'; omega
theorem InnV.more {w : World} {lo hi : Nat} {e : TypeId} {us : List Value} {LL : List (List Int)} (h : InnV w lo hi e us LL) : InnV w lo w.heap.size e us LL := ⟨h.len, fun k u L hu hL => (h.inner k u L hu hL).more, h.apart⟩
/-- the first k lists of lists, by sums -/
structure BS (w : World) (lo a b k : Nat) (outs : List Value) (vss : List (List Value)) : Prop where
  lenO : outs.length = k
  lenV : vss.length = k
  rows : ∀ (j : Nat) u vs, outs[j]? = some u → vss[j]? = some vs → Own w lo w.heap.size 22 u vs ∧ vs.length = (LB a b j).length
  inn : InnV w lo w.heap.size 3 vss.flatten ((List.range k).flatMap (LB a b))
theorem BS.kb {w w' : World} {lo a b k : Nat} {outs : List Value} {vss : List (List Value)} (h : BS w lo a b k outs vss) (hk : Kb w w' lo) : BS w' lo a b k outs vss :=
  ⟨h.lenO, h.lenV, fun j u vs hu hv => ⟨((h.rows j u vs hu hv).1.kb hk).more, (h.rows j u vs hu hv).2⟩, (h.inn.kb hk (Nat.le_refl _)).more⟩
theorem BS.next {w w' : World} {lo a b k : Nat} {outs : List Value} {vss : List (List Value)} {u : Value} {us : List Value} (h : BS w lo a b k outs vss) (hb : Below w.heap.size w w') (hlo : lo ≤ w.heap.size) (hu : OwnLL w' w.heap.size w'.heap.size 22 3 u us (LB a b k)) : BS w' lo a b (k + 1) (outs ++ [u]) (vss ++ [us]) := by
  have hkb : Kb w w' lo := ⟨hb.size, fun g _ h2 => hb.block g h2⟩
  have h0 := h.kb hkb
  refine ⟨by simp [h.lenO], by simp [h.lenV], fun j x vs hx hv => ?_, ?_⟩
  · by_cases hj : j < k
    · rw [List.getElem?_append_left (by rw [h.lenO]; exact hj)] at hx
      rw [List.getElem?_append_left (by rw [h.lenV]; exact hj)] at hv
      exact h0.rows j x vs hx hv
    · rw [List.getElem?_append_right (by rw [h.lenO]; omega), h.lenO] at hx
      rw [List.getElem?_append_right (by rw [h.lenV]; omega), h.lenV] at hv
      have e0 : j - k = 0 := by
        rcases Nat.eq_zero_or_pos (j - k) with z | z
        · exact z
        · rw [List.getElem?_eq_none (by simp only [List.length_singleton]; omega)] at hx; cases hx
      rw [e0] at hx hv
      cases hx; cases hv
      obtain rfl : j = k := by
        have := Nat.le_of_not_lt hj
        omega
      exact ⟨hu.outer.lower hlo, hu.len⟩
  · have e1 : (List.range (k + 1)).flatMap (LB a b) = (List.range k).flatMap (LB a b) ++ LB a b k := by rw [List.range_succ, List.flatMap_append]; simp
    rw [e1, List.flatten_append, List.flatten_singleton]
    exact InnV.append (h.inn.kb hkb (Nat.le_refl _)) hu.innV hlo hb.size rfl
set_option maxRecDepth 100000 in
set_option maxHeartbeats 4000000 in
theorem partsBySum_any (a b : Nat) (ha : a ≤ 4) (hb4 : b ≤ 4) (w : World) :
    Calls Try.prog 58 #[.agg #[.int .i64 (a : Int), .int .i64 (b : Int)]] w fun e w' => ∃ outs vss, e = .returned (.slice (some ⟨w.heap.size + 1, 0, none⟩) (a * b + 1) (a * b + 1)) ∧ Blk w' (w.heap.size + 1) 36 (outs : List Value).toArray ∧ BS w' (w.heap.size + 2) a b (a * b + 1) outs vss ∧ Below w.heap.size w w' := by
  obtain ⟨p, hp⟩ : ∃ p, a * b = p := ⟨_, rfl⟩
  have hp16 : p ≤ 16 := by rw [← hp]; exact Nat.le_trans (Nat.mul_le_mul ha hb4) (by omega)
  have hpi : ((a : Nat) : Int) * ((b : Nat) : Int) = (p : Int) := by rw [← Int.natCast_mul, hp]
  rw [hp]
  clear hp
  obtain ⟨Zs, hZs⟩ : ∃ Zs, List.replicate (p + 1) (Value.slice none 0 0) = Zs := ⟨_, rfl⟩
  have hmk : ∀ w, (Instr.makeSlice 44 (.int .i64 ((p : Int) + 1)) (.int .i64 ((p : Int) + 1))).run Try.prog w = .ok (.slice (some ⟨w.heap.size, 0, none⟩) (p + 1) (p + 1)) (w.alloc (.cells Zs.toArray 36)) := fun w => by rw [← hZs]; exact run_make_lists (P := Try.prog) 44 36 _ Try.underlying44 rfl rfl rfl rfl (p + 1) (by omega) w
  obtain ⟨w2, hw2⟩ : ∃ w2, w2 = (w.alloc (.cells #[.int .i64 (a : Int), .int .i64 (b : Int)] 61)).alloc (.cells Zs.toArray 36) := ⟨_, rfl⟩
  have hbx : Blk w2 w.heap.size 61 #[.int .i64 (a : Int), .int .i64 (b : Int)] := by rw [hw2]; exact (Blk.new w _ _).alloc _
  have hrow : Blk w2 (w.heap.size + 1) 36 (([] : List Value) ++ List.replicate (p + 1 - 0) (Value.slice none 0 0)).toArray := by
    have e := Blk.new (w.alloc (.cells #[.int .i64 (a : Int), .int .i64 (b : Int)] 61)) 36 Zs.toArray
    rw [World.size_alloc] at e
    rw [hw2, List.nil_append, Nat.sub_zero, hZs]; exact e
  have hbw2 : Below w.heap.size w w2 := hw2 ▸ ((Below.refl _ _).alloc (Nat.le_refl _) _).alloc (by simp) _
  have hz2 : w.heap.size + 2 ≤ w2.heap.size := by rw [hw2]; simp
  have HW2 := Lib.hid hw2
  clear hw2 hZs
  go_enter Try.func58, Try.ntmps58
  go_wp2_with fail
  rw [← HW2.out]
  clear hmk hpi
  go_loopw [14] (fun ii wr => ∃ (k : Nat) (outs : List Value) (vss : List (List Value)), ii = .int .i64 (k : Int) ∧ k ≤ p + 1 ∧ Blk wr w.heap.size 61 #[.int .i64 (a : Int), .int .i64 (b : Int)] ∧ Blk wr (w.heap.size + 1) 36 (outs ++ List.replicate (p + 1 - k) (Value.slice none 0 0)).toArray ∧ BS wr (w.heap.size + 2) a b k outs vss ∧ w.heap.size + 2 ≤ wr.heap.size ∧ Below w.heap.size w wr) (fun ii _ => p + 1 - (intOf ii).toNat)
  case atStart => exact ⟨0, [], [], rfl, Nat.zero_le _, hbx, hrow, ⟨rfl, rfl, fun j u vs hu => by simp at hu, InnV.nil _ _ _ _⟩, hz2, hbw2⟩
  case round =>
    obtain ⟨k, outs, vss, rfl, hk, hblx, hblk, hbs, hzr, hbel⟩ := hrel
    by_cases hlt : k < p + 1
    · have hlt' : (k : Int) < (p : Int) + 1 := by omega
      have cb : wr.heap[w.heap.size]? = some (.cells #[.int .i64 (a : Int), .int .i64 (b : Int)] 61 (0, 0)) := hblx
      have HL := Lib.hid hbs.lenO
      have HBS := Lib.hid hbs
      have c0 := hblx.cell 0
      have c1 := hblx.cell 1
      simp only [List.getElem?_toArray, List.getElem?_cons_zero, List.getElem?_cons_succ] at c0 c1
      have hck : wr.cell? ⟨w.heap.size + 1, k, none⟩ = some (.slice none 0 0) := by
        rw [hblk.cell k, List.getElem?_toArray, List.getElem?_append_right (by rw [HL.out]; omega), HL.out, List.getElem?_replicate, if_pos (by omega)]
      have HBK := Lib.hid hblk
      clear hbs hblk
      go_wp2_with (go_at_call 80; refine (partsWhere_all k (by omega) _ (HB a b) _ (holds_isK a b _)).mono ?_; rintro e w3 ⟨a3, c3, us, rfl, h3, hb3⟩; have hck3 := (hb3.cell (p := ⟨w.heap.size + 1, k, none⟩) (World.block_lt_of_cell? _ _ hck)).trans hck; have hfz3 := (HBK.out.below hb3 HBK.out.lt).free k)
      go_roundw
      case rel =>
        have hb3' := HBK.out.below hb3 HBK.out.lt
        have hz3 := hb3.size
        have hkb : ∀ u, Kb w3 (w3.setCell ⟨w.heap.size + 1, k, none⟩ u) (w.heap.size + 2) := fun u => ⟨by simp [World.setCell], fun g h1 _ => Below.heap_setCell w3 ⟨w.heap.size + 1, k, none⟩ u g (by show g ≠ w.heap.size + 1; omega)⟩
        refine ⟨k + 1, outs ++ [.slice a3 (LB a b k).length c3], vss ++ [us], by go_num, by omega, (hblx.below hb3 hblx.lt).off (by simp) _, ?_, (HBS.out.next hb3 hzr h3).kb (hkb _), by simp [World.setCell]; omega, (hbel.trans (hb3.mono hbel.size)).setCell (p := ⟨w.heap.size + 1, k, none⟩) (by simp) _⟩
        have h5 := hb3'.set k (.slice a3 (LB a b k).length c3)
        rw [List.setIfInBounds_toArray, fill_setV HL.out hlt] at h5
        exact h5
      case measure => simp [intOf] <;> omega
    · obtain rfl : k = p + 1 := by omega
      have HBS := Lib.hid hbs
      have HBK := Lib.hid hblk
      clear hbs hblk
      go_wp2_with fail
      go_ret
      have h5 := HBK.out
      rw [Nat.sub_self, List.replicate_zero, List.append_nil] at h5
      exact ⟨outs, vss, rfl, h5, HBS.out, hbel⟩
end Go.Proofs.Ytcjnmconehfbgaa
namespace Go.Proofs.Ytcjnmconehfbgaa
open Go.RowKit NP
set_option linter.unusedVariables false
def rowB (a b : Nat) : List Int := (List.range (a * b + 1)).map fun s => ((LB a b s).length : Int)
def rowTab : Bool := (List.range 5).all fun a => (List.range 5).all fun b => gbox a b == rowB a b
set_option maxRecDepth 100000 in
theorem rowTab_all : rowTab = true := by decide +kernel
theorem rowB_gbox {a b : Nat} (ha : a ≤ 4) (hb : b ≤ 4) : gbox a b = rowB a b := by
  have h := rowTab_all
  unfold rowTab at h
  have h1 := List.all_eq_true.1 h a (by simp; omega)
  have h2 := List.all_eq_true.1 h1 b (by simp; omega)
  exact eq_of_beq h2
def brF (a b : Int) : List Int := if limB a b then gbox a.toNat b.toNat else []
theorem brF_len (a b : Int) : (brF a b).length ≤ 17 := by
  unfold brF
  split
  · rename_i h
    unfold limB at h
    simp only [decide_eq_true_eq] at h
    rw [gbox_len]
    have := Nat.mul_le_mul (show a.toNat ≤ 4 by omega) (show b.toNat ≤ 4 by omega)
    omega
  · simp
end Go.Proofs.Ytcjnmconehfbgaa
namespace Go.Proofs.Ytcjnmconehfbgaa
open Go.RowKit NP
set_option maxRecDepth 8000
set_option linter.unusedVariables false
set_option linter.unusedSimpArgs false
theorem validBox_any (a b : Int) (w : World) :
    Calls Try.prog 55 #[.int .i64 a, .int .i64 b] w fun e w' => e = .returned (.bool (limB a b)) ∧ w = w' := by
  by_cases ha : 0 ≤ a ∧ a ≤ 4
  · by_cases hb : 0 ≤ b ∧ b ≤ 4
    · have HR : Hid (limB a b = true) := Lib.hid (decide_eq_true ⟨ha.1, ha.2, hb.1, hb.2⟩)
      go_enter Try.func55, Try.ntmps55
      go_wp2_with (first
        | (go_at_call 47; (with_reducible refine (inRange_yes a _ _ _ ha.1 ha.2).mono ?_); rintro e w' ⟨rfl, rfl⟩)
        | (go_at_call 47; (with_reducible refine (inRange_yes b _ _ _ hb.1 hb.2).mono ?_); rintro e w' ⟨rfl, rfl⟩))
      go_ret
      exact ⟨ret_bool HR.out.symm, rfl⟩
    · have HR : Hid (limB a b = false) := Lib.hid (decide_eq_false (fun h => hb h.2.2))
      have hb' : b < 0 ∨ 4 < b := by omega
      go_enter Try.func55, Try.ntmps55
      go_wp2_with (first
        | (go_at_call 47; (with_reducible refine (inRange_yes a _ _ _ ha.1 ha.2).mono ?_); rintro e w' ⟨rfl, rfl⟩)
        | (go_at_call 47; (with_reducible refine (inRange_no b _ _ _ hb').mono ?_); rintro e w' ⟨rfl, rfl⟩))
      go_ret
      exact ⟨ret_bool HR.out.symm, rfl⟩
  · have HR : Hid (limB a b = false) := Lib.hid (decide_eq_false (fun h => ha ⟨h.1, h.2.1⟩))
    have ha' : a < 0 ∨ 4 < a := by omega
    go_enter Try.func55, Try.ntmps55
    go_wp2_with (go_at_call 47; refine (inRange_no a _ _ _ ha').mono ?_; rintro e w' ⟨rfl, rfl⟩)
    go_ret
    exact ⟨ret_bool HR.out.symm, rfl⟩
end Go.Proofs.Ytcjnmconehfbgaa
namespace Go.Proofs.Ytcjnmconehfbgaa
open Go.RowKit NP
set_option maxRecDepth 8000
set_option linter.unusedVariables false
set_option linter.unusedSimpArgs false



theorem keep_offD {w w1 : World} {lo : Nat} {e : TypeId} {v : Value} {vs : List Value} {o : Obj} {n c : Nat} (h : Own w lo w.heap.size e v vs) (hg : (w.alloc o).grownBy w1 (Value.slice (some ⟨w.heap.size, 0, none⟩) n c).ownBlock) : Own w1 lo w1.heap.size e v vs :=
  ((h.alloc o).grown hg (by
    cases hb : v.ownBlock with
    | none => exact .inl rfl
    | some g => exact .inr fun e => by have := h.lt g hb; simp [Value.ownBlock] at e; omega)).more
theorem small_of_parts' {M : List Int} (h : SmallParts M) : Small M := ⟨by have := h.1; omega, fun x hx => by have := h.2 x hx; omega⟩
theorem small_of_valid {M : List Int} (h : valid M = true) : Small M := by
  have hb := valid_bd h
  refine ⟨by omega, fun x hx => ?_⟩
  obtain ⟨k, hk, rfl⟩ := List.getElem_of_mem hx
  have := preS_of_valid h k hk hk
  omega





end Go.Proofs.Ytcjnmconehfbgaa
namespace Go.Proofs.Ytcjnmconehfbgaa
open Go.RowKit NP
set_option maxRecDepth 8000
set_option linter.unusedVariables false
set_option linter.unusedSimpArgs false
theorem limB_nat {a b : Int} (h : limB a b = true) : ∃ m n : Nat, a = (m : Int) ∧ b = (n : Int) ∧ m ≤ 4 ∧ n ≤ 4 := by
  unfold limB at h
  simp only [decide_eq_true_eq] at h
  exact ⟨a.toNat, b.toNat, by omega, by omega, by omega, by omega⟩
theorem brF_yes {m n : Nat} (h : limB m n = true) : brF m n = gbox m n := by simp [brF, h]
theorem brF_no {a b : Int} (h : limB a b = false) : brF a b = [] := by simp [brF, h]
set_option maxHeartbeats 1000000 in
theorem iBoxRow_any (a b : Int) (w : World) :
    Calls Try.prog 27 #[.int .i64 a, .int .i64 b] w fun e w' => ∃ a' c', e = .returned (.slice a' (brF a b).length c') ∧ Own w' w.heap.size w'.heap.size 3 (.slice a' (brF a b).length c') (ints (brF a b)) ∧ Below w.heap.size w w' := by
  have hb0 : Below w.heap.size w (w.alloc (.cells #[.int .i64 a, .int .i64 b] 61)) := (Below.refl _ _).alloc (Nat.le_refl _) _
  have hbx := Blk.new w 61 #[.int .i64 a, .int .i64 b]
  obtain ⟨w1, hw1⟩ : ∃ w1, w1 = w.alloc (.cells #[.int .i64 a, .int .i64 b] 61) := ⟨_, rfl⟩
  rw [← hw1] at hb0 hbx
  have hz1 : w1.heap.size = w.heap.size + 1 := by rw [hw1, World.size_alloc]
  have HW1 := Lib.hid hw1
  clear hw1
  cases h : limB a b with
  | false =>
    rw [brF_no h]
    go_enter Try.func27, Try.ntmps27
    go_wp2_with (go_at_call 57; refine (isInLimits_any a b _).mono ?_; rintro e wv ⟨rfl, hbv⟩; rw [← HW1.out] at hbv; rw [h])
    go_ret
    exact ⟨none, 0, rfl, Own.nil _ _ _, hb0.trans (hbv.mono hb0.size)⟩
  | true =>
    obtain ⟨i0, hi, hz00, hz01, hz02⟩ := T_int'
    obtain ⟨m, n, rfl, rfl, hm, hn⟩ := limB_nat h
    rw [brF_yes h, rowB_gbox hm hn]
    obtain ⟨N, hN⟩ : ∃ N, m * n + 1 = N := ⟨_, rfl⟩
    have hN17 : N ≤ 17 := by
      have := Nat.mul_le_mul hm hn
      omega
    have HP := Lib.hid (fun w => partsBySum_any m n hm hn w)
    rw [hN] at HP
    have HRW : Hid (rowB m n = (List.range N).map fun s => ((LB m n s).length : Int)) := Lib.hid (by unfold rowB; rw [hN])
    have HLE : Hid (∀ k, k < N → (LB m n k).length ≤ 1000) := Lib.hid (fun k hk => Nat.le_trans (List.length_filter_le _ _) (allQ_len (by omega)))
    clear hN
    go_enter Try.func27, Try.ntmps27
    go_wp2_with (go_at_call 57; refine (isInLimits_any m n _).mono ?_; rintro e wv ⟨rfl, hbv⟩; rw [← HW1.out] at hbv; rw [h]; have hbxv := hbx.below hbv hbx.lt; have c0 := hbxv.cell 0; have c1 := hbxv.cell 1; simp only [List.getElem?_toArray, List.getElem?_cons_zero, List.getElem?_cons_succ] at c0 c1)
    refine (HP.out wv).mono ?_
    rintro e w2 ⟨outs, vss, rfl, hrow, hbs, hb2⟩
    have hbw2 : Below w.heap.size w w2 := (hb0.trans (hbv.mono hb0.size)).trans (hb2.mono (by have := hbv.size; omega))
    have hzv := hbv.size
    have hz2 := hb2.size
    have hgv : wv.heap.size + 1 < w2.heap.size := hrow.lt
    clear hb0 hbx hbv hbxv c0 c1 hb2
    have hO := Own.nil w2 w2.heap.size 3
    go_wp2_with fail
    go_loopw [6, 18] (fun v ii wr => ∃ k : Nat, ii = .int .i64 (k : Int) ∧ k ≤ N ∧ Own wr w2.heap.size wr.heap.size 3 v (ints ((List.range k).map fun s => ((LB m n s).length : Int))) ∧ Below w2.heap.size w2 wr) (fun _ ii _ => N - (intOf ii).toNat)
    case atStart => exact ⟨0, rfl, Nat.zero_le _, hO, Below.refl _ _⟩
    case round =>
      obtain ⟨k, rfl, hk, ho, hbr⟩ := hrel
      by_cases hlt : k < N
      · have hlt' : (k : Int) < (N : Int) := by omega
        have hko : k < outs.length := by rw [hbs.lenO]; exact hlt
        have hkv : k < vss.length := by rw [hbs.lenV]; exact hlt
        obtain ⟨hou, hlv⟩ := hbs.rows k outs[k] vss[k] (List.getElem?_eq_getElem hko) (List.getElem?_eq_getElem hkv)
        obtain ⟨a3, c3, hu⟩ := hou.form
        rw [hlv] at hu
        have hll := HLE.out k hlt
        obtain ⟨l, hl⟩ : ∃ l, (LB m n k).length = l := ⟨_, rfl⟩
        have HS : Hid ((List.range (k + 1)).map (fun s => ((LB m n s).length : Int)) = (List.range k).map (fun s => ((LB m n s).length : Int)) ++ [(l : Int)]) := Lib.hid (by rw [List.range_succ, List.map_append, ← hl]; rfl)
        rw [hl] at hu hll
        have hcu : wr.cell? ⟨wv.heap.size + 1, k, none⟩ = some (.slice a3 l c3) := by
          rw [← hu]
          have h1 := (hrow.below hbr hgv).cell k
          rw [h1, List.getElem?_toArray, List.getElem?_eq_getElem hko]
        obtain ⟨vs, hvs⟩ : ∃ vs, vs = ints ((List.range k).map fun s => ((LB m n s).length : Int)) := ⟨_, rfl⟩
        have hvl : vs.length ≤ 17 := by rw [hvs, List.length_map, List.length_map, List.length_range]; omega
        rw [← hvs] at ho
        have HO := Lib.hid ho
        have HVS := Lib.hid hvs
        have hzr := hbr.size
        clear ho hou hlv hu hl hko hkv hvs
        go_wp2_with (at_builtin; refine wpList_append_o _ rfl (.tmp 22) (.tmp 25) 22 rfl w2.heap.size wr.heap.size 3 i0 (.int .i64 0) 8 Try.underlying22 hi hz00 hz01 hz02 rfl _ vs rfl (HO.out.alloc _) (wr.heap.size + 1) (some ⟨wr.heap.size, 0, none⟩) 1 1 [.int .i64 (l : Int)] rfl (Rd.one _ _ _) rfl (by simp; rfl) (by unfold maxLen; omega) (by omega) (by simp; omega) ?_; intro v' w3 ho3 hg3 hat3)
        go_roundw
        case rel =>
          refine ⟨k + 1, by go_num, by omega, ?_, ?_⟩
          · rw [HS.out]
            show Own w3 w2.heap.size w3.heap.size 3 v' (List.map (Value.int .i64) (_ ++ [(l : Int)]))
            rw [List.map_append, show List.map (Value.int .i64) ((List.range k).map fun s => ((LB m n s).length : Int)) = vs from HVS.out.symm]
            exact ho3
          · exact (hbr.alloc hzr _).grown hg3 (by simp; omega) (fun g e => by have := HO.out.base g e; omega)
        case measure => simp [intOf] <;> omega
      · obtain rfl : k = N := by omega
        obtain ⟨a4, c4, rfl⟩ := ho.form
        have HO := Lib.hid ho
        clear ho
        go_wp2_with fail
        go_ret
        have h1 := HO.out
        have h2 : (rowB m n).length = (ints ((List.range k).map fun s => ((LB m n s).length : Int))).length := by rw [HRW.out]; simp
        rw [h2, HRW.out]
        exact ⟨a4, c4, rfl, h1.lower (by have := hbw2.size; omega), hbw2.trans (hbr.mono (by have := hbw2.size; omega))⟩
theorem sBoxRow_any (a b : Int) (w : World) :
    Calls Try.prog 26 #[.int .i64 a, .int .i64 b] w fun e w' => ∃ a' c', e = .returned (.slice a' (brF a b).length c') ∧ Own w' w.heap.size w'.heap.size 3 (.slice a' (brF a b).length c') (ints (brF a b)) ∧ Below w.heap.size w w' := by
  cases h : limB a b with
  | false =>
    rw [brF_no h]
    go_enter Try.func26, Try.ntmps26
    go_wp2_with (go_at_call 55; refine (validBox_any a b _).mono ?_; rintro e wv ⟨rfl, rfl⟩; rw [h])
    go_ret
    exact ⟨none, 0, rfl, Own.nil _ _ _, Below.refl _ _⟩
  | true =>
    obtain ⟨m, n, rfl, rfl, hm, hn⟩ := limB_nat h
    rw [brF_yes h]
    have HG := Lib.hid (boxRow_any (m + n) m n w (Nat.le_refl _) hm hn)
    go_enter Try.func26, Try.ntmps26
    go_wp2_with (go_at_call 55; refine (validBox_any m n _).mono ?_; rintro e wv ⟨rfl, rfl⟩; rw [h])
    refine HG.out.mono ?_
    rintro e w' ⟨a', c', rfl, ho, hb⟩
    go_wp2_with fail
    go_ret
    exact ⟨a', c', rfl, ho, hb⟩
end Go.Proofs.Ytcjnmconehfbgaa
namespace Go.Proofs.Ytcjnmconehfbgaa
open Go.RowKit NP
set_option maxRecDepth 8000
set_option linter.unusedVariables false
theorem chg_low5 {B : Nat} {b c : World} {w0 : World} {g : Nat} (hb : Below B w0 b) (hB : B ≤ w0.heap.size) (hg : B ≤ g) (h : b.grownBy c (some g)) : Below B w0 c := hb.grown h (by have := hb.size; omega) fun k hk => by injection hk with hk; omega
theorem aSide_any (g q : Nat) (bs : List Int) (w : World) (hq : q ≤ 900000) (h : Rdr w g bs q) :
    Calls Try.prog 59 #[.pointer (some ⟨g, 0, none⟩)] w fun e w' => ∃ n : Int, e = .returned (.int .i64 n) ∧ (-1 ≤ n ∧ n ≤ 5) ∧ Rdr w' g bs (q + 1) ∧ w.grownBy w' (some g) := by
  have hlt := h.lt
  go_enter Try.func59, Try.ntmps59
  go_wp2_with fail
  refine (one_any g _ _ _ _ [3, 2, 4, 1, 3, 0, 5, -1] bs _ (by simp) (by simp) (by omega) (h.below ((Below.refl _ _).alloc hlt _)) (rd_new w _ _) (by intro b o e; injection e with e; injection e with e; omega)).mono ?_
  rintro e w1 ⟨k, hk, rfl, h1, hg1, -⟩
  have hx : ∀ x ∈ ([3, 2, 4, 1, 3, 0, 5, -1] : List Int), -1 ≤ x ∧ x ≤ 5 := by decide
  have hx1 := hx _ (List.getElem_mem hk)
  obtain ⟨x, hxx⟩ : ∃ x, x = ([3, 2, 4, 1, 3, 0, 5, -1] : List Int)[k] := ⟨_, rfl⟩
  rw [← hxx] at hx1 ⊢
  clear hx hxx hk h
  have hG1 := chg_trans (World.grownBy_alloc w (.cells (ints [3, 2, 4, 1, 3, 0, 5, -1]).toArray 3) (some g)) hg1
  clear hg1
  go_wp2_with fail
  go_ret
  exact ⟨x, rfl, hx1, h1, hG1⟩
end Go.Proofs.Ytcjnmconehfbgaa
namespace Go.Proofs.Ytcjnmconehfbgaa
open Go.RowKit NP
set_option maxRecDepth 8000
set_option linter.unusedVariables false
set_option linter.unusedSimpArgs false
theorem DrawBoxRow_any (a : Option Addr) (c B : Nat) (bs : List Int) (w : World) (h : Rd w B a (bs.map (Value.int .u8))) (hB : B ≤ w.heap.size) (hb : ∀ n ∈ bs, (Lit.int .u8 n).wf = true) (hl : bs.length ≤ 1048576) (hc : bs.length ≤ c) :
    Calls Try.prog 28 #[.slice a bs.length c] w fun e w' => ∃ x y : Int, e = .returned (.tuple #[.int .i64 x, .int .i64 y]) ∧ (-1000 ≤ x ∧ x ≤ 1000) ∧ (-1000 ≤ y ∧ y ≤ 1000) ∧ Below w.heap.size w w' := by
  go_enter Try.func28, Try.ntmps28
  go_wp2_with fail
  refine (newReader_any _ _ B bs _ h hB hb hl hc).mono ?_
  rintro e w1 ⟨rfl, h1, hb1, -⟩
  go_wp2_with fail
  refine (aSide_any w.heap.size 0 _ _ (by omega) h1).mono ?_
  rintro e w2 ⟨x, rfl, hx, h2, hg2⟩
  have hb2 : Below w.heap.size w w2 := chg_low2 hb1 (Nat.le_refl _) hg2
  go_wp2_with fail
  refine (aSide_any w.heap.size (0 + 1) _ _ (by omega) h2).mono ?_
  rintro e w3 ⟨y, rfl, hy, h3, hg3⟩
  have hb3 : Below w.heap.size w w3 := chg_low2 hb2 (Nat.le_refl _) hg3
  go_wp2_with fail
  go_ret2
  exact ⟨x, y, rfl, by omega, by omega, hb3⟩
theorem DrawBoxParts_any (a : Option Addr) (c B : Nat) (bs : List Int) (w : World) (h : Rd w B a (bs.map (Value.int .u8))) (hB : B ≤ w.heap.size) (hb : ∀ n ∈ bs, (Lit.int .u8 n).wf = true) (hl : bs.length ≤ 1048576) (hc : bs.length ≤ c) :
    Calls Try.prog 36 #[.slice a bs.length c] w fun e w' => ∃ x y : Int, e = .returned (.tuple #[.int .i64 x, .int .i64 y]) ∧ (-1000 ≤ x ∧ x ≤ 1000) ∧ (-1000 ≤ y ∧ y ≤ 1000) ∧ Below w.heap.size w w' := by
  go_enter Try.func36, Try.ntmps36
  go_wp2_with fail
  refine (DrawBoxRow_any _ _ B bs _ h hB hb hl hc).mono ?_
  rintro e w1 ⟨x, y, rfl, hx, hy, hb1⟩
  go_wp2_with fail
  go_ret2
  exact ⟨x, y, rfl, hx, hy, hb1⟩
theorem sum_bd1 {L : List Int} {b : Int} (h : ∀ x ∈ L, 0 ≤ x ∧ x ≤ b) (hb : 0 ≤ b) : 0 ≤ sumL L ∧ sumL L ≤ b * L.length := by
  induction L with
  | nil => simp [sumL]
  | cons x r ih =>
    have h1 := h x (by simp)
    have h2 := ih fun y hy => h y (by simp [hy])
    simp only [sumL, List.length_cons]
    have e : b * ((r.length + 1 : Nat) : Int) = b * (r.length : Int) + b := by rw [Int.natCast_add, Int.mul_add]; simp
    rw [e]
    omega
theorem fits_thou {L : List Int} (h : ∀ x ∈ L, 0 ≤ x ∧ x ≤ 1000) (hl : L.length ≤ 1000) : sumFits L := fun k hk => by
  have   := sum_bd1 (L := L.take k) (b := 1000) (fun x hx => h x (List.mem_of_mem_take hx)) (by omega)
  have e : (L.take k).length ≤ 1000 := by simp; omega
  omega
/-- the value after i steps -/
def chS (n : Nat) : Nat → Int
  | 0 => 1
  | i + 1 => (chS n i * ((n : Int) - (i : Int))).tdiv ((i : Int) + 1)
def chTab : Bool := (List.range 9).all fun n => (List.range 5).all fun i => decide (0 ≤ chS n i) && decide (chS n i ≤ 100)
theorem chTab_all : chTab = true := by decide +kernel
theorem chS_bd {n i : Nat} (hn : n ≤ 8) (hi : i ≤ 4) : 0 ≤ chS n i ∧ chS n i ≤ 100 := by
  have h := chTab_all
  unfold chTab at h
  have h1 := List.all_eq_true.1 h n (by simp; omega)
  have h2 := List.all_eq_true.1 h1 i (by simp; omega)
  simpa using h2
def gboxT : Bool := (List.range 5).all fun a => (List.range 5).all fun b => (gbox a b).reverse == gbox a b && gbox b a == gbox a b && sumL (gbox a b) == chS (a + b) a
theorem gboxT_all : gboxT = true := by decide +kernel
theorem gboxT_ok {a b : Nat} (ha : a ≤ 4) (hb : b ≤ 4) : (gbox a b).reverse = gbox a b ∧ gbox b a = gbox a b ∧ sumL (gbox a b) = chS (a + b) a := by
  have h := gboxT_all
  unfold gboxT at h
  have h1 := List.all_eq_true.1 h a (by simp; omega)
  have h2 := List.all_eq_true.1 h1 b (by simp; omega)
  simp only [Bool.and_eq_true, beq_iff_eq] at h2
  exact ⟨h2.1.1, h2.1.2, h2.2⟩
set_option maxHeartbeats 1000000 in
theorem choose_any (n k : Nat) (hn : n ≤ 8) (hk : k ≤ 4) (hkn : k ≤ n) (w : World) :
    Calls Try.prog 30 #[.int .i64 (n : Int), .int .i64 (k : Int)] w fun e w' => e = .returned (.int .i64 (chS n k)) ∧ w = w' := by
  go_enter Try.func30, Try.ntmps30
  go_wp2
  go_loop [5, 6] (fun v ii => ∃ i : Nat, i ≤ k ∧ ii = .int .i64 (i : Int) ∧ v = .int .i64 (chS n i)) (fun _ ii => k - (intOf ii).toNat)
  case atStart => exact ⟨0, Nat.zero_le _, rfl, rfl⟩
  case round =>
    obtain ⟨i, hi, rfl, rfl⟩ := hrel
    by_cases hlt : i < k
    · have hlt' : (i : Int) < (k : Int) := by omega
      have h0 := chS_bd hn (show i ≤ 4 by omega)
      have h1 := chS_bd hn (show i + 1 ≤ 4 by omega)
      have HS : Hid (chS n (i + 1) = (chS n i * ((n : Int) - (i : Int))).tdiv ((i : Int) + 1)) := Lib.hid rfl
      obtain ⟨d, hd⟩ : ∃ d : Nat, n - i = d := ⟨_, rfl⟩
      have hdi : (n : Int) - (i : Int) = (d : Int) := by omega
      rw [hdi] at HS
      obtain ⟨x, hx⟩ : ∃ x, chS n i = x := ⟨_, rfl⟩
      obtain ⟨y, hy⟩ : ∃ y, chS n (i + 1) = y := ⟨_, rfl⟩
      rw [hx] at h0 HS
      rw [hy] at h1 HS
      have hpb : 0 ≤ x * (d : Int) ∧ x * (d : Int) ≤ 100 * 8 := ⟨Int.mul_nonneg h0.1 (by omega), Int.mul_le_mul h0.2 (by omega) (by omega) (by omega)⟩
      obtain ⟨q, hq0, e1, e2, HQ⟩ : ∃ q : Int, (0 ≤ q ∧ q ≤ 800) ∧ wrap64 (x * (d : Int)) = q ∧ IntKind.i64.wrap (x * (d : Int)) = q ∧ Hid (x * (d : Int) = q) :=
        ⟨_, ⟨hpb.1, by omega⟩, IntWalk.wrap64_in _ (by omega), IntWalk.i64_in _ (by omega), Lib.hid rfl⟩
      have hyq : y = q.tdiv ((i : Int) + 1) := by rw [HS.out, HQ.out]
      have e3 : q / ((i : Int) + 1) = y := by rw [hyq, Int.tdiv_eq_ediv_of_nonneg hq0.1]
      have e4 : q.tdiv ((i : Int) + 1) = y := hyq.symm
      have hy0 := h1.1
      have hy1 := h1.2
      have HY := Lib.hid hy
      clear hpb hd hyq h0 h1 hy
      rw [hx]
      clear hx
      go_wp2_with fail
      go_round
      case rel => exact ⟨i + 1, by omega, by go_num, by rw [HY.out]⟩
      case measure => simp [intOf]; omega
    · obtain rfl : i = k := by omega
      go_wp2_with fail
      go_ret
      exact ⟨rfl, rfl⟩
theorem choose_ab (a b : Nat) (ha : a ≤ 4) (hb : b ≤ 4) (w : World) :
    Calls Try.prog 30 #[.int .i64 ((a : Int) + (b : Int)), .int .i64 (a : Int)] w fun e w' => e = .returned (.int .i64 (chS (a + b) a)) ∧ w = w' := by
  have := choose_any (a + b) a (by omega) ha (by omega) w
  rwa [Int.natCast_add] at this
end Go.Proofs.Ytcjnmconehfbgaa
namespace Go.Proofs.Ytcjnmconehfbgaa
namespace NP
set_option linter.unusedVariables false
/-- how many of the first n rows have a cell on a diagonal -/
def dc (L : List Int) (d : Int) : Nat → Int
  | 0 => 0
  | n + 1 => dc L d n + (if 0 ≤ d + n ∧ d + n < L.getD n 0 then 1 else 0)
theorem dc_bd (L : List Int) (d : Int) (n : Nat) : 0 ≤ dc L d n ∧ dc L d n ≤ n := by
  induction n with
  | zero => simp [dc]
  | succ n ih => simp only [dc]; split <;> omega
theorem dc_succ (L : List Int) (d : Int) (n : Nat) : dc L d (n + 1) = dc L d n + (if 0 ≤ d + n ∧ d + n < L.getD n 0 then 1 else 0) := rfl
theorem dc_congr {L M : List Int} (d : Int) (n : Nat) (h : ∀ i, i < n → L.getD i 0 = M.getD i 0) : dc L d n = dc M d n := by
  induction n with
  | zero => rfl
  | succ n ih => rw [dc_succ, dc_succ, ih (fun i hi => h i (by omega)), h n (by omega)]
theorem dc_more {L : List Int} (d : Int) (n m : Nat) (hm : n ≤ m) (h : ∀ i, n ≤ i → L.getD i 0 = 0) : dc L d m = dc L d n := by
  induction m with
  | zero => obtain rfl : n = 0 := by omega
            rfl
  | succ m ih =>
    rcases Nat.lt_or_ge m n with h1 | h1
    · obtain rfl : n = m + 1 := by omega
      rfl
    · rw [dc_succ, ih h1, h m h1, if_neg (by omega)]
      omega
/-- the diagonals of rows, n of them, R rows -/
def dia (L : List Int) : List Int := (List.range (L.length - 1 + (L.headD 0).toNat)).map fun (t : Nat) => dc L ((t : Int) + 1 - L.length) L.length
def diaF (L : List Int) : List Int := if valid L then dia L else []
theorem diaF_yes {L : List Int} (h : valid L = true) : diaF L = dia L := by simp [diaF, h]
theorem diaF_no {L : List Int} (h : valid L = false) : diaF L = [] := by simp [diaF, h]
theorem diaF_len (L : List Int) : (diaF L).length ≤ 32 := by
  unfold diaF
  split
  · rename_i h
    have := headD_bd h
    have := valid_bd h
    simp only [dia, List.length_map, List.length_range]
    omega
  · simp
/-- what has been counted when i rows are done, and k cells of the next -/
def dac (L : List Int) (T i k : Nat) : List Int := (List.range T).map fun (t : Nat) => dc (pad L) ((t : Int) + 1 - L.length) i + (if 0 ≤ (t : Int) + 1 - L.length + i ∧ (t : Int) + 1 - L.length + i < k then 1 else 0)
theorem dac_len (L : List Int) (T i k : Nat) : (dac L T i k).length = T := by simp [dac]
theorem dac_zero (L : List Int) (T : Nat) : dac L T 0 0 = List.replicate T 0 := by
  apply List.ext_getElem
  · simp [dac]
  · intro j h1 h2
    simp only [dac, List.getElem_map, List.getElem_range, dc, List.getElem_replicate]
    rw [if_neg (by omega)]
    rfl
theorem dac_get (L : List Int) (T i k m : Nat) (hm : m < (dac L T i k).length) (he : m + i + 1 = L.length + k) : (dac L T i k)[m] = dc (pad L) ((m : Int) + 1 - L.length) i := by
  simp only [dac, List.getElem_map, List.getElem_range]
  rw [if_neg (by omega), Int.add_zero]
theorem dac_set (L : List Int) (T i k m : Nat) (hm : m < T) (he : m + i + 1 = L.length + k) : (dac L T i k).set m (dc (pad L) ((m : Int) + 1 - L.length) i + 1) = dac L T i (k + 1) := by
  apply List.ext_getElem
  · simp [dac]
  · intro j h1 h2
    by_cases hj : m = j
    · subst hj
      rw [List.getElem_set_self]
      simp only [dac, List.getElem_map, List.getElem_range]
      rw [if_pos (by omega)]
    · rw [List.getElem_set_ne hj]
      simp only [dac, List.getElem_map, List.getElem_range]
      congr 1
      split <;> split <;> omega
theorem dac_next (L : List Int) (T i k : Nat) (hk : (k : Int) = (pad L).getD i 0) : dac L T i k = dac L T (i + 1) 0 := by
  apply List.ext_getElem
  · simp [dac]
  · intro j h1 h2
    simp only [dac, List.getElem_map, List.getElem_range, dc_succ]
    rw [← hk]
    have : ¬ (0 ≤ (j : Int) + 1 - L.length + ((i + 1 : Nat) : Int) ∧ (j : Int) + 1 - L.length + ((i + 1 : Nat) : Int) < ((0 : Nat) : Int)) := by omega
    rw [if_neg this]
    split <;> omega
theorem dac_end {L : List Int} (hl : L.length ≤ 16) : dac L (L.length - 1 + (L.headD 0).toNat) 16 0 = dia L := by
  apply List.ext_getElem
  · simp [dac, dia]
  · intro j h1 h2
    simp only [dac, dia, List.getElem_map, List.getElem_range]
    rw [if_neg (by omega), dc_more _ L.length 16 hl (fun i hi => by rw [pad_getD hl, getD_out hi])]
    rw [dc_congr _ _ (fun i _ => pad_getD hl i)]
    omega
end NP
end Go.Proofs.Ytcjnmconehfbgaa
namespace Go.Proofs.Ytcjnmconehfbgaa
namespace NP
set_option linter.unusedVariables false
/-- the first row that ends at or ahead of a diagonal -/
def mm (L : List Int) (d : Int) : Nat := ff (fun i => decide (d + (i : Int) < L.getD i 0)) L.length
theorem ff_spec2 (p : Nat → Bool) (n : Nat) : ff p n ≤ n ∧ (∀ j, j < ff p n → p j = true) ∧ (ff p n = n ∨ p (ff p n) = false) := by
  induction n with
  | zero => exact ⟨Nat.le_refl _, fun j hj => by simp [ff, ffrom] at hj, .inl rfl⟩
  | succ n ih =>
    obtain ⟨h1, h2, h3⟩ := ih
    rcases h3 with h3 | h3
    · cases hp : p n with
      | true =>
        have e : ff p (n + 1) = n + 1 := ff_eq (fun j hj => by
          rcases Nat.lt_or_ge j n with h | h
          · exact h2 j (by omega)
          · obtain rfl : j = n := by omega
            exact hp) (Nat.le_refl _) (.inl rfl)
        rw [e]
        exact ⟨Nat.le_refl _, fun j hj => by
          rcases Nat.lt_or_ge j n with h | h
          · exact h2 j (by omega)
          · obtain rfl : j = n := by omega
            exact hp, .inl rfl⟩
      | false =>
        have e : ff p (n + 1) = n := ff_eq (fun j hj => h2 j (by omega)) (by omega) (.inr hp)
        rw [e]
        exact ⟨by omega, fun j hj => h2 j (by omega), .inr hp⟩
    · have e : ff p (n + 1) = ff p n := ff_eq h2 (by omega) (.inr h3)
      rw [e]
      exact ⟨by omega, h2, .inr h3⟩
theorem getD_mono {L : List Int} (hv : valid L = true) {i j : Nat} (h : i ≤ j) : L.getD j 0 ≤ L.getD i 0 := by
  induction j with
  | zero => obtain rfl : i = 0 := by omega
            exact Int.le_refl _
  | succ j ih =>
    rcases Nat.lt_or_ge j i with h1 | h1
    · obtain rfl : i = j + 1 := by omega
      exact Int.le_refl _
    · refine Int.le_trans ?_ (ih h1)
      rcases Nat.lt_or_ge (j + 1) L.length with h2 | h2
      · rw [getD_lt h2, getD_lt (by omega)]
        have := (preS_of_valid hv (j + 1) h2 h2).2.2 (by omega)
        simpa using this
      · rw [getD_ge h2]
        rcases Nat.lt_or_ge j L.length with h3 | h3
        · have := getD_pos hv h3; omega
        · rw [getD_ge h3]; exact Int.le_refl _
theorem mm_lt {L : List Int} (hv : valid L = true) (d : Int) (i : Nat) (h : i < mm L d) : d + (i : Int) < L.getD i 0 := of_decide_eq_true ((ff_spec2 _ _).2.1 i h)
theorem mm_ge {L : List Int} (hv : valid L = true) (d : Int) (i : Nat) (h : mm L d ≤ i) (hi : i < L.length) : L.getD i 0 ≤ d + (i : Int) := by
  have hs := (ff_spec2 (fun i => decide (d + (i : Int) < L.getD i 0)) L.length).2.2
  have hm : mm L d < L.length := by omega
  rcases hs with hs | hs
  · unfold mm at hm h; omega
  · have h1 : ¬ (d + ((mm L d : Nat) : Int) < L.getD (mm L d) 0) := of_decide_eq_false hs
    have h2 := getD_mono hv h
    omega
theorem mm_le (L : List Int) (d : Int) : mm L d ≤ L.length := (ff_spec2 _ _).1
/-- a diagonal's cells -/
theorem dc_mm {L : List Int} (hv : valid L = true) (d : Int) (n : Nat) (hn : n ≤ L.length) : dc L d n = max 0 (min (n : Int) (mm L d) - max 0 (-d)) := by
  induction n with
  | zero => simp only [dc]; omega
  | succ n ih =>
    rw [dc_succ, ih (by omega)]
    rcases Nat.lt_or_ge n (mm L d) with h | h
    · have := mm_lt hv d n h
      split <;> omega
    · have := mm_ge hv d n h (by omega)
      rw [if_neg (by omega)]
      omega
theorem dc_mm' {L : List Int} (hv : valid L = true) (d : Int) : dc L d L.length = max 0 ((mm L d : Int) - max 0 (-d)) := by
  rw [dc_mm hv d _ (Nat.le_refl _)]
  have := mm_le L d
  omega
theorem dia_get (L : List Int) (t : Nat) (h : t < (dia L).length) : (dia L)[t] = dc L ((t : Int) + 1 - L.length) L.length := by simp [dia]
theorem dia_len (L : List Int) : (dia L).length = L.length - 1 + (L.headD 0).toNat := by simp [dia]
theorem dia_pos {L : List Int} (hv : valid L = true) (t : Nat) (h : t < (dia L).length) : 1 ≤ (dia L)[t] := by
  rw [dia_get, dc_mm' hv]
  rw [dia_len] at h
  have hl := mm_le L ((t : Int) + 1 - L.length)
  have h0 : 0 < L.length := by
    rcases Nat.eq_zero_or_pos L.length with h0 | h0
    · obtain rfl := List.eq_nil_of_length_eq_zero h0
      simp at h
    · exact h0
  rcases Int.lt_or_le ((t : Int) + 1 - L.length) 0 with hd | hd
  · obtain ⟨i, hi⟩ : ∃ i : Nat, (i : Int) = -((t : Int) + 1 - L.length) := ⟨(-((t : Int) + 1 - L.length)).toNat, by omega⟩
    have hiL : i < L.length := by omega
    rcases Nat.lt_or_ge i (mm L ((t : Int) + 1 - L.length)) with h1 | h1
    · omega
    · have := mm_ge hv _ i h1 hiL
      have := getD_pos hv hiL
      omega
  · rcases Nat.eq_zero_or_pos (mm L ((t : Int) + 1 - L.length)) with h1 | h1
    · have := mm_ge hv ((t : Int) + 1 - L.length) 0 (by omega) h0
      have hH : L.getD 0 0 = L.headD 0 := by cases L <;> rfl
      have := headD_bd hv
      omega
    · omega
theorem dur_of_mono {L : List Int} (hv : valid L = true) (m : Nat) (h : m = 0 ∨ ((m - 1 : Nat) : Int) < L.getD (m - 1) 0) : m ≤ durS L := by
  have hs := durS_spec L
  rcases h with h | h
  · omega
  · have hml : m - 1 < L.length := by
      rcases Nat.lt_or_ge (m - 1) L.length with h1 | h1
      · exact h1
      · rw [getD_ge h1] at h; omega
    rcases Nat.lt_or_ge (m - 1) (durS L) with h1 | h1
    · omega
    · have hf := (ff_spec2 (fun k => decide ((k : Int) < L.getD k 0)) L.length).2.2
      have e : durS L = ff (fun (k : Nat) => decide ((k : Int) < L.getD k 0)) L.length := rfl
      rw [← e] at hf
      rcases hf with hf | hf
      · omega
      · have h2 : ¬ (((durS L : Nat) : Int) < L.getD (durS L) 0) := of_decide_eq_false hf
        have h3 := getD_mono hv h1
        omega
theorem dia_dur {L : List Int} (hv : valid L = true) (t : Nat) (h : t < (dia L).length) : (dia L)[t] ≤ (durS L : Int) := by
  rw [dia_get, dc_mm' hv]
  generalize (t : Int) + 1 - L.length = d
  rcases Int.lt_or_le d 0 with hd | hd
  · obtain ⟨j, hj⟩ : ∃ j : Nat, j = ((mm L d : Int) + d).toNat := ⟨_, rfl⟩
    have hju : j ≤ durS L := dur_of_mono hv j (by
      rcases Nat.eq_zero_or_pos j with h0 | h0
      · exact .inl h0
      · right
        have h1 := mm_lt hv d (mm L d - 1) (by omega)
        have h2 := getD_mono hv (i := j - 1) (j := mm L d - 1) (by omega)
        omega)
    omega
  · have hju : mm L d ≤ durS L := dur_of_mono hv (mm L d) (by
      rcases Nat.eq_zero_or_pos (mm L d) with h0 | h0
      · exact .inl h0
      · right
        have h1 := mm_lt hv d (mm L d - 1) (by omega)
        omega)
    omega
/-- how many numbers below n stand in a window -/
def win (c x : Int) : Nat → Int
  | 0 => 0
  | n + 1 => win c x n + (if 0 ≤ (n : Int) + c ∧ (n : Int) + c < x then 1 else 0)
theorem win_eq (c x : Int) (hc : c ≤ 0) (hx : 0 ≤ x) (n : Nat) : win c x n = max 0 (min ((n : Int) + c) x) := by
  induction n with
  | zero => simp only [win]; omega
  | succ n ih => simp only [win, ih]; split <;> omega
def dsumTo (L : List Int) (n : Nat) : Nat → Int
  | 0 => 0
  | t + 1 => dsumTo L n t + dc L ((t : Int) + 1 - L.length) n
theorem dsumTo_zero (L : List Int) (t : Nat) : dsumTo L 0 t = 0 := by
  induction t with
  | zero => rfl
  | succ t ih => simp [dsumTo, ih, dc]
theorem dsumTo_succ (L : List Int) (n t : Nat) : dsumTo L (n + 1) t = dsumTo L n t + win ((1 : Int) - L.length + n) (L.getD n 0) t := by
  induction t with
  | zero => simp [dsumTo, win]
  | succ t ih =>
    simp only [dsumTo, ih, dc_succ, win]
    have e : (t : Int) + 1 - L.length + n = (t : Int) + (1 - L.length + n) := by omega
    rw [e]
    omega
theorem dsumTo_sum {L : List Int} (hv : valid L = true) (n : Nat) (hn : n ≤ L.length) : dsumTo L n (L.length - 1 + (L.headD 0).toNat) = sumL (L.take n) := by
  induction n with
  | zero => rw [dsumTo_zero]; rfl
  | succ n ih =>
    rw [dsumTo_succ, ih (by omega), sumL_take_succ L n (by omega), getD_lt (by omega)]
    have h1 := preS_of_valid hv n (by omega) (by omega)
    have h2 := head_ge hv L[n] (List.getElem_mem _)
    have h3 := headD_bd hv
    rw [win_eq _ _ (by omega) (by omega)]
    omega
theorem sum_map_range (f : Nat → Int) (n : Nat) : sumL ((List.range (n + 1)).map f) = sumL ((List.range n).map f) + f n := by
  rw [List.range_succ, List.map_append, sumL_append]; simp [sumL]
theorem dsumTo_map (L : List Int) (n t : Nat) : sumL ((List.range t).map fun (t : Nat) => dc L ((t : Int) + 1 - L.length) n) = dsumTo L n t := by
  induction t with
  | zero => rfl
  | succ t ih => rw [sum_map_range, ih]; rfl
theorem dia_sum {L : List Int} (hv : valid L = true) : sumL (dia L) = sumL L := by
  unfold dia
  rw [dsumTo_map, dsumTo_sum hv _ (Nat.le_refl _), List.take_of_length_le (Nat.le_refl _)]
/-- a cell lies in a diagram if its mirror lies in the conjugate -/
theorem cell_conj {L : List Int} (hv : valid L = true) (i k : Nat) (hi : i < L.length) : ((k : Int) < L.getD i 0) ↔ (i : Int) < (conj L).getD k 0 := by
  rw [getD_lt hi]
  rcases Nat.lt_or_ge k (conj L).length with hk | hk
  · rw [getD_lt hk, conj_get]
    have := cnt_ge_iff hv hi ((k : Int) + 1)
    omega
  · rw [getD_ge hk]
    rw [conj_len] at hk
    have h2 := head_ge hv L[i] (List.getElem_mem _)
    have := headD_bd hv
    omega
/-- the first row that ends ahead of a diagonal, of the conjugate -/
theorem mm_conj {L : List Int} (hv : valid L = true) (h0 : 0 < L.length) (d : Nat) (hd : d + mm L d ≤ (L.headD 0).toNat) : mm (conj L) (-(d : Int)) = d + mm L d := by
  have hm := mm_le L d
  show ff (fun i => decide (-(d : Int) + (i : Int) < (conj L).getD i 0)) (conj L).length = d + mm L d
  refine ff_eq (fun j hj => decide_eq_true ?_) (by rw [conj_len]; exact hd) ?_
  · rcases Nat.lt_or_ge j d with h1 | h1
    · have h2 : 1 ≤ (conj L).getD j 0 := getD_pos (valid_conj hv) (by rw [conj_len]; omega)
      omega
    · have h3 := mm_lt hv d (j - d) (by omega)
      have h4 := (cell_conj hv (j - d) j (by omega)).1 (by omega)
      omega
  · rcases Nat.lt_or_ge (d + mm L d) (L.headD 0).toNat with h1 | h1
    · right
      apply decide_eq_false
      intro h2
      rcases Nat.lt_or_ge (mm L d) L.length with h3 | h3
      · have h4 := (cell_conj hv (mm L d) (d + mm L d) h3).2 (by omega)
        have h5 := mm_ge hv d (mm L d) (Nat.le_refl _) h3
        omega
      · have e : (conj L).getD (d + mm L d) 0 = cnt (((d + mm L d : Nat) : Int) + 1) L := by rw [getD_lt (by rw [conj_len]; exact h1), conj_get]
        have h6 := cnt_bd (((d + mm L d : Nat) : Int) + 1) L
        omega
    · left; rw [conj_len]; omega
theorem mm_fits {L : List Int} (hv : valid L = true) (h0 : 0 < L.length) (d : Nat) (hd : d < (L.headD 0).toNat) : d + mm L d ≤ (L.headD 0).toNat := by
  rcases Nat.eq_zero_or_pos (mm L d) with h1 | h1
  · omega
  · have h2 := mm_lt hv d (mm L d - 1) (by omega)
    have h3 := getD_mono hv (i := 0) (j := mm L d - 1) (by omega)
    have hH : L.getD 0 0 = L.headD 0 := by cases L <;> rfl
    omega
/-- a diagonal right of the first is one below the first, of the conjugate -/
theorem dc_conj {L : List Int} (hv : valid L = true) (h0 : 0 < L.length) (d : Nat) (hd : d < (L.headD 0).toNat) : dc (conj L) (-(d : Int)) (conj L).length = dc L d L.length := by
  rw [dc_mm' (valid_conj hv), dc_mm' hv, mm_conj hv h0 d (mm_fits hv h0 d hd)]
  omega
theorem dc_conj' {L : List Int} (hv : valid L = true) (h0 : 0 < L.length) (d : Int) (h1 : -(L.length : Int) < d) (h2 : d < L.headD 0) : dc (conj L) (-d) (conj L).length = dc L d L.length := by
  have hh := headD_bd hv
  rcases Int.lt_or_le d 0 with h | h
  · obtain ⟨e, he⟩ := Int.eq_ofNat_of_zero_le (by omega : 0 ≤ -d)
    have hd : d = -(e : Int) := by omega
    have hc0 : 0 < (conj L).length := by have := conj_nil_iff hv; omega
    have := dc_conj (valid_conj hv) hc0 e (by
      have : (conj L).headD 0 = cnt 1 L := by
        rw [headD_get (conj L) hc0, conj_get]; simp
      rw [this, cnt_one hv]
      omega)
    rw [conj_conj hv] at this
    rw [he, hd]
    exact this.symm
  · obtain ⟨e, rfl⟩ := Int.eq_ofNat_of_zero_le h
    exact dc_conj hv h0 e (by omega)
theorem dia_conj {L : List Int} (hv : valid L = true) : dia (conj L) = (dia L).reverse := by
  rcases Nat.eq_zero_or_pos L.length with h0 | h0
  · obtain rfl := List.eq_nil_of_length_eq_zero h0
    rfl
  · have hh := headD_bd hv
    have hhead : (conj L).headD 0 = L.length := by
      have hc0 : 0 < (conj L).length := by
        have := conj_nil_iff hv
        omega
      rw [headD_get (conj L) hc0, conj_get]
      have := cnt_one hv
      simpa using this
    have hlen : (dia (conj L)).length = (dia L).length := by
      have hc1 : 0 < (conj L).length := by have := conj_nil_iff hv; omega
      rw [conj_len] at hc1
      rw [dia_len, dia_len, conj_len, hhead]
      omega
    apply List.ext_getElem
    · rw [List.length_reverse, hlen]
    · intro t h1 h2
      rw [List.getElem_reverse, dia_get, dia_get]
      rw [hlen] at h1
      have h3 := h1
      rw [dia_len] at h3
      rw [← dc_conj' hv h0 (((((dia L).length - 1 - t : Nat) : Int) + 1 - L.length)) (by rw [dia_len]; omega) (by rw [dia_len]; omega)]
      congr 1
      rw [dia_len, conj_len]
      omega
end NP
end Go.Proofs.Ytcjnmconehfbgaa
namespace Go.Proofs.Ytcjnmconehfbgaa
open Go.RowKit NP
set_option maxRecDepth 8000
set_option linter.unusedVariables false

theorem keep2 {wr wx w' : World} {g k : Nat} {x : Value} (h1 : wx.cell? ⟨g, k, none⟩ = some x) (h2 : Below wr.heap.size wr wx) (hb : Below wx.heap.size wx w') (hg : g < wr.heap.size) : w'.cell? ⟨g, k, none⟩ = some x ∧ Below wr.heap.size wr w' :=
  ⟨(hb.cell (by have := h2.size; show g < wx.heap.size; omega)).trans h1, h2.trans (hb.mono h2.size)⟩

theorem mirrored_any (a : Option Addr) (c B : Nat) (L : List Int) (w : World) (h : Rd w B a (ints L)) (hB : B ≤ w.heap.size) (hl : L.length ≤ 1000) :
    Calls Try.prog 29 #[.slice a L.length c] w fun e w' => ∃ a' c', e = .returned (.slice a' L.reverse.length c') ∧ Own w' w.heap.size w'.heap.size 3 (.slice a' L.reverse.length c') (ints L.reverse) ∧ Below w.heap.size w w' := by
  obtain ⟨i0, hi, hz0, hz1, hz2⟩ := T_int'
  have HR : Hid (L.reverse.length = L.length) := Lib.hid (by simp)
  go_enter Try.func29, Try.ntmps29
  go_wp2
  go_loopw [3, 4] (fun v i wr => ∃ j : Nat, j ≤ L.length ∧ i = .int .i64 ((L.length : Int) - 1 - j) ∧ Below w.heap.size w wr ∧ Own wr w.heap.size wr.heap.size 3 v (ints (L.reverse.take j))) (fun _ i _ => (intOf i + 1).toNat)
  case atStart => exact ⟨0, Nat.zero_le _, by go_num, (Below.refl _ _).alloc (Nat.le_refl _) _, (Own.empty w 3).more⟩
  case round =>
    obtain ⟨j, hj, rfl, hbel, hown⟩ := hrel
    by_cases hlt : j < L.length
    · have hR := (h.more hB).below hbel
      obtain ⟨k, hk⟩ : ∃ k : Nat, k = L.length - 1 - j := ⟨_, rfl⟩
      have hkL : k < L.length := by omega
      obtain ⟨b, o, rfl, _, hc⟩ := hR.at_ hkL
      have hki : (L.length : Int) - 1 - (j : Int) = (k : Int) := by omega
      have hki' : ((k : Nat) : Int) < (L.length : Int) := by omega
      have HS : Hid (ints (L.reverse.take (j + 1)) = ints (L.reverse.take j) ++ [.int .i64 L[k]]) := Lib.hid (by
        rw [List.take_succ_eq_append_getElem (by simp; omega), ints, List.map_append]
        congr 1
        simp only [List.getElem_reverse, List.map_cons, List.map_nil]
        congr 2
        congr 1
        omega)
      obtain ⟨vs, hvs⟩ : ∃ vs, vs = ints (L.reverse.take j) := ⟨_, rfl⟩
      have hlv : vs.length ≤ j := by rw [hvs]; simp; omega
      rw [← hvs] at hown
      have HVS := Lib.hid hvs
      have HO := Lib.hid hown
      have HK := Lib.hid hk
      rw [hki]
      clear hvs hown hki hk
      go_wp2_with (at_builtin; refine wpList_append_o _ rfl (.tmp 13) (.tmp 18) 22 rfl w.heap.size wr.heap.size 3 i0 (.int .i64 0) 8 Try.underlying22 hi hz0 hz1 hz2 rfl _ vs rfl (HO.out.alloc _) (wr.heap.size + 1) (some ⟨wr.heap.size, 0, none⟩) 1 1 [.int .i64 L[k]] rfl (Rd.one wr _ _) rfl (by simp; rfl) (by unfold maxLen; omega) (by omega) (by have := hbel.size; simp; omega) ?_; intro v' w1 ho1 hg1 hat1)
      go_roundw
      case rel =>
        have hk := HK.out
        refine ⟨j + 1, by omega, by go_num, below_push hbel (Nat.le_refl _) hg1 HO.out.base, ?_⟩
        rw [HVS.out] at ho1
        rw [HS.out]
        simpa using ho1
      case measure => simp [intOf] <;> omega
    · obtain rfl : j = L.length := by omega
      obtain ⟨a', c', rfl⟩ := hown.form
      have hlt' : (L.length : Int) - 1 - (L.length : Int) = -1 := by omega
      rw [hlt']
      have HO := Lib.hid hown
      clear hown hlt'
      go_wp2
      go_ret
      have e : L.reverse.take L.length = L.reverse := List.take_of_length_le (by simp)
      have hlc : L.reverse.length = (ints (L.reverse.take L.length)).length := by rw [e]; simp
      refine ⟨a', c', by rw [hlc]; rfl, ?_, hbel⟩
      rw [hlc, ← e]
      have := HO.out
      rw [e] at this ⊢
      rw [e]
      exact this
end Go.Proofs.Ytcjnmconehfbgaa
