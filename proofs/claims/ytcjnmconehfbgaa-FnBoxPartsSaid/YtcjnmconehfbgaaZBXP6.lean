/-
  Walks: the model's row of a box. Walks of the program: all parts in a box, by their sums. Walks: the draws of chapter 4. Walks: lists of lists put together (the library's Grow and Concat). Plain mathematics: how many parts of each sum are in a box, by a table. Plain mathematics: the parts in a box, by tables. Walks: whether the sides of a box are in limits, of the model. Walks: how many parts of each sum are in a box. Walks of the program: all parts in a box. Walks: all parts listed (the model's list). Walks: all parts listed (the model's list), whole. Mathematics: squares cut off and put back; doubled parts.
-/
import Derived.Test.YtcjnmconehfbgaaZBXP1
import Derived.Test.YtcjnmconehfbgaaZBXP2
import Derived.Test.YtcjnmconehfbgaaZBXP3
import Derived.Test.YtcjnmconehfbgaaZBXP4
import Derived.Test.YtcjnmconehfbgaaZBXP5
import Derived.Lib.AppendZerosOnto
namespace Go.Proofs.Ytcjnmconehfbgaa
open Go.RowKit NP
set_option maxRecDepth 8000
set_option linter.unusedVariables false
set_option linter.unusedSimpArgs false
/-- what lies between lo and the end of w2 is the same in w' -/
def Kb (w2 w' : World) (lo : Nat) : Prop := w2.heap.size ≤ w'.heap.size ∧ ∀ g, lo ≤ g → g < w2.heap.size → w'.heap[g]? = w2.heap[g]?
theorem Kb.dr {w2 w w' : World} {lo : Nat} (h : Kb w2 w lo) (hb : Dr w w') : Kb w2 w' lo := by
  obtain ⟨n, rfl⟩ := hb
  exact h
theorem Kb.off {w2 w : World} {lo : Nat} (h : Kb w2 w lo) (g : Nat) (hg : g < lo) (i : Nat) (u : Value) : Kb w2 (w.setCell ⟨g, i, none⟩ u) lo :=
  ⟨by simp [World.setCell]; exact h.1, fun k h1 h2 => (Below.heap_setCell w ⟨g, i, none⟩ u k (by show k ≠ g; omega)).trans (h.2 k h1 h2)⟩
theorem Own.kb {w2 w : World} {lo hi : Nat} {e : TypeId} {v : Value} {vs : List Value} (h : Own w2 lo hi e v vs) (k : Kb w2 w lo) : Own w lo hi e v vs :=
  h.keep k.1 fun g hg => k.2 g (h.base g hg) (Nat.lt_of_lt_of_le (h.lt g hg) h.le)
theorem ret_one (w : World) : ∃ a' c', Ending.returned (.slice (some ⟨w.heap.size, 0, none⟩) 1 1) = Ending.returned (.slice a' ([1] : List Int).length c') ∧ Own (w.alloc (.cells #[.int .i64 1] 3)) w.heap.size (w.alloc (.cells #[.int .i64 1] 3)).heap.size 3 (.slice a' ([1] : List Int).length c') (ints [1]) ∧ Below w.heap.size w (w.alloc (.cells #[.int .i64 1] 3)) :=
  ⟨_, 1, rfl, (Blk.new w 3 (ints [1]).toArray).own (Nat.le_refl _) (by simp [maxLen]), (Below.refl _ _).alloc (Nat.le_refl _) _⟩
set_option maxRecDepth 100000 in
set_option maxHeartbeats 4000000 in
theorem boxRow_any : ∀ (s a b : Nat) (w : World), a + b ≤ s → a ≤ 4 → b ≤ 4 →
    Calls Try.prog 56 #[.int .i64 (a : Int), .int .i64 (b : Int)] w fun e w' => ∃ a' c', e = .returned (.slice a' (gbox a b).length c') ∧ Own w' w.heap.size w'.heap.size 3 (.slice a' (gbox a b).length c') (ints (gbox a b)) ∧ Below w.heap.size w w' := by
  intro s
  induction s with
  | zero =>
    intro a b w hs ha hb
    obtain rfl : a = 0 := by omega
    have hz : gbox 0 b = [1] := gbox_zero 0 b (.inl rfl)
    rw [hz]
    go_enter Try.func56, Try.ntmps56
    go_wp2_with fail
    all_goals (go_ret; exact ret_one w)
  | succ s ih =>
    intro a b w hs ha hb
    by_cases h0 : a = 0
    · subst h0
      have hz : gbox 0 b = [1] := gbox_zero 0 b (.inl rfl)
      rw [hz]
      go_enter Try.func56, Try.ntmps56
      go_wp2_with fail
      all_goals (go_ret; exact ret_one w)
    have ea : ((a : Int) == 0) = false := beq_eq_false_iff_ne.2 (by omega)
    by_cases h1 : b = 0
    · subst h1
      have hz : gbox a 0 = [1] := gbox_zero a 0 (.inr rfl)
      rw [hz]
      go_enter Try.func56, Try.ntmps56
      go_wp2_with fail
      all_goals (go_ret; exact ret_one w)
    have eb : ((b : Int) == 0) = false := beq_eq_false_iff_ne.2 (by omega)
    obtain ⟨a1, rfl⟩ : ∃ k, a = k + 1 := ⟨a - 1, by omega⟩
    obtain ⟨b1, rfl⟩ : ∃ k, b = k + 1 := ⟨b - 1, by omega⟩
    obtain ⟨p, hp⟩ : ∃ p, (a1 + 1) * (b1 + 1) = p := ⟨_, rfl⟩
    have hp16 : p ≤ 16 := by rw [← hp]; exact Nat.le_trans (Nat.mul_le_mul ha hb) (by omega)
    have hpi : ((a1 + 1 : Nat) : Int) * ((b1 + 1 : Nat) : Int) = (p : Int) := by rw [← Int.natCast_mul, hp]
    have hG := Lib.hid (gbox_next a1 b1)
    rw [hp] at hG
    have hX := gbox_len (a1 + 1) b1
    have hY := gbox_len a1 (b1 + 1)
    have hxp : (a1 + 1) * b1 + 1 ≤ p := by rw [← hp, Nat.mul_succ]; omega
    have hyp : a1 * (b1 + 1) + 1 + b1 + 1 = p + 1 := by rw [← hp, Nat.succ_mul]; omega
    have HBX := Lib.hid (gbox_bd (a := a1 + 1) (b := b1) ha (by omega))
    have HBY := Lib.hid (gbox_bd (a := a1) (b := b1 + 1) (by omega) hb)
    have ih1 := fun w => ih (a1 + 1) b1 w (by omega) ha (by omega)
    have ih2 := fun w => ih a1 (b1 + 1) w (by omega) (by omega) hb
    have HIH := Lib.hid ih
    clear ih hp
    obtain ⟨X, hXX⟩ : ∃ X, gbox (a1 + 1) b1 = X := ⟨_, rfl⟩
    obtain ⟨Y, hYY⟩ : ∃ Y, gbox a1 (b1 + 1) = Y := ⟨_, rfl⟩
    rw [hXX] at hX hG HBX ih1
    rw [hYY] at hY hG HBY ih2
    obtain ⟨Z, hZ⟩ : ∃ Z, List.replicate (p + 1) (0 : Int) = Z := ⟨_, rfl⟩
    obtain ⟨Z2, hZ2⟩ : ∃ Z2, ad Z X 0 X.length = Z2 := ⟨_, rfl⟩
    rw [hZ, hZ2] at hG
    rw [hG.out]
    have HZL : Hid (Z.length = p + 1) := Lib.hid (by rw [← hZ, List.length_replicate])
    have HZ0 : Hid (∀ k (hk : k < Z.length), Z[k] = 0) := Lib.hid (by subst hZ; intro k hk; simp)
    have HZL2 : Hid (Z2.length = p + 1) := Lib.hid (by rw [← hZ2, ad_len, HZL.out])
    have HZB2 : Hid (∀ y ∈ Z2, 0 ≤ y ∧ y ≤ 200) := Lib.hid (by
      rw [← hZ2]
      refine ad_bd Z X 0 X.length 100 100 (fun y hy => ?_) HBX.out (by omega) (by omega)
      obtain ⟨i, hi, rfl⟩ := List.getElem_of_mem hy
      rw [HZ0.out i hi]; omega)
    have HZ := Lib.hid hZ
    have HZ2 := Lib.hid hZ2
    clear hG hXX hYY HIH hZ hZ2
    have hmk : ∀ w, (Instr.makeSlice 22 (.int .i64 ((p : Int) + 1)) (.int .i64 ((p : Int) + 1))).run Try.prog w = .ok (.slice (some ⟨w.heap.size, 0, none⟩) (p + 1) (p + 1)) (w.alloc (.cells (arr Z) 3)) := fun w => by rw [← HZ.out]; exact run_make_ints (P := Try.prog) 22 3 _ Try.underlying22 rfl rfl rfl rfl (p + 1) (by omega) w
    have eA : ((a1 + 1 : Nat) : Int) - 1 = (a1 : Int) := by omega
    have eB : ((b1 + 1 : Nat) : Int) - 1 = (b1 : Int) := by omega
    have hXl : X.length ≤ p := by omega
    have hYl : Y.length + (b1 + 1) = p + 1 := by omega
    clear hX hY hxp hyp
    obtain ⟨A, hAA⟩ : ∃ A, a1 + 1 = A := ⟨_, rfl⟩
    obtain ⟨B, hBB⟩ : ∃ B, b1 + 1 = B := ⟨_, rfl⟩
    rw [hAA] at hpi eA ea ih1 ha hs ⊢
    rw [hBB] at hpi eB eb ih2 hb hs hYl ⊢
    obtain ⟨w1, hw1⟩ : ∃ w1, w1 = w.alloc (.cells (arr Z) 3) := ⟨_, rfl⟩
    have hb1 : Below w.heap.size w w1 := hw1 ▸ (Below.refl _ _).alloc (Nat.le_refl _) _
    have hz1 : w1.heap.size = w.heap.size + 1 := by rw [hw1, World.size_alloc]
    have hB1 : Blk w1 w.heap.size 3 (arr Z) := by rw [hw1]; exact Blk.new w _ _
    have HW1 := Lib.hid hw1
    clear hw1 h0 h1 hAA hBB
    go_enter Try.func56, Try.ntmps56
    go_wp2_with fail
    rw [← HW1.out]
    refine (ih1 w1).mono ?_
    rintro e w2 ⟨aX, cX, rfl, oX, hb2⟩
    have hbw2 : Below w.heap.size w w2 := hb1.trans (hb2.mono (by omega))
    have hB2 : Blk w2 w.heap.size 3 (arr Z) := hB1.below hb2 (by omega)
    have hz2 := hb2.size
    clear hb1 hb2 hB1 hmk HW1
    go_wp2_with fail
    refine (ih2 w2).mono ?_
    rintro e w3 ⟨aY, cY, rfl, oY, hb3⟩
    replace oX := oX.below hb3
    have hbw3 : Below w.heap.size w w3 := hbw2.trans (hb3.mono (by omega))
    have hBZ : Blk w3 w.heap.size 3 (arr Z) := hB2.below hb3 (by omega)
    have hz3 := hb3.size
    replace oX := (oX.lower (lo' := w.heap.size + 1) (by omega))
    replace oY := (oY.lower (lo' := w.heap.size + 1) (by omega))
    clear hbw2 hB2 hb3
    have hKb : Kb w3 w3 (w.heap.size + 1) := ⟨Nat.le_refl _, fun _ _ _ => rfl⟩
    have hmx : Try.prog.follows .mixedOrders = true := by kernel_rfl
    go_wp2_with fail
    go_loopw [8] (fun ii wr => ∃ k : Nat, ii = .int .i64 (k : Int) ∧ k ≤ X.length ∧ Blk wr w.heap.size 3 (arr (ad Z X 0 k)) ∧ Kb w3 wr (w.heap.size + 1) ∧ Below w.heap.size w wr) (fun ii _ => X.length - (intOf ii).toNat)
    case atStart => exact ⟨0, rfl, Nat.zero_le _, by rw [ad_zero]; exact hBZ, hKb, hbw3⟩
    case round =>
      obtain ⟨k, rfl, hk, hblk, hkb, hbel⟩ := hrel
      by_cases hlt : k < X.length
      · have hox := oX.kb hkb
        obtain ⟨gX, rfl, hcx⟩ := hox.read (k := k) (by simpa using hlt)
        rw [List.getElem_map] at hcx
        have hbx := HBX.out _ (List.getElem_mem hlt)
        have hkp : k < Z.length := by rw [HZL.out]; omega
        have hkle : (k : Int) < (p : Int) + 1 := by omega
        have hcz := hblk.cell k
        have hh := ad_here Z X 0 k (by rw [Nat.zero_add]; exact hkp)
        have hst := ad_step Z X 0 k (by rw [Nat.zero_add]; exact hkp) hlt
        simp only [Nat.zero_add] at hh hst
        have hzk : Z[k] = 0 := HZ0.out k hkp
        rw [arr_get _ _ (by rw [ad_len]; exact hkp), hh] at hcz
        obtain ⟨z, hz⟩ : ∃ z, Z[k] = z := ⟨_, rfl⟩
        rw [hz] at hcz hst hzk
        have hz0 : 0 ≤ z ∧ z ≤ 200 := by omega
        clear hh hz hzk
        obtain ⟨x, hx⟩ : ∃ x, X[k] = x := ⟨_, rfl⟩
        rw [hx] at hcx hbx hst
        have hx0 := hbx.1
        have hx1 := hbx.2
        have hz1 := hz0.1
        have hz2 := hz0.2
        have hws : IntKind.i64.wrap (z + x) = z + x := IntWalk.i64_in _ (by omega)
        have hfz := hblk.free k
        have hne : gX ≠ w.heap.size := by have := hox.base gX rfl; omega
        have HST := Lib.hid hst
        clear hx hbx hst
        go_wp2_with fail
        refine wp_region_store [0, 1, 2, 3, 4, 5, 6, 7, 8, 9, 10, 11] [.slice (some ⟨w.heap.size, 0, none⟩) (p + 1) (p + 1), .int .i64 k, .slice (some ⟨w.heap.size, 0, none⟩) (p + 1) (p + 1), .int .i64 k, .pointer (some ⟨w.heap.size, k, none⟩), .int .i64 z, .slice (some ⟨gX, 0, none⟩) X.length cX, .int .i64 k, .pointer (some ⟨gX, k, none⟩), .int .i64 x, .int .i64 (z + x), .pointer (some ⟨w.heap.size, k, none⟩)] (fun w' => Dr wr w') _ hmx (fun _ h => h) rfl (by kernel_rfl) (by kernel_rfl) rfl rfl (by kernel_rfl) (by kernel_rfl) _ rfl rfl rfl 3 _ _ rfl ⟨w.heap.size, k, none⟩ (.int .i64 (z + x)) ?hx ?hy ?run ?steps ?rest
        case hx => simp only [putsOfG, Act.put, List.getElem?_toArray, List.getElem?_cons_succ, List.getElem?_cons_zero, Option.bind_some, Nat.reduceAdd, List.setIfInBounds_toArray, List.set_cons_zero, List.set_cons_succ]; rfl
        case hy => simp only [putsOfG, Act.put, List.getElem?_toArray, List.getElem?_cons_succ, List.getElem?_cons_zero, Option.bind_some, Nat.reduceAdd, List.setIfInBounds_toArray, List.set_cons_zero, List.set_cons_succ]; rfl
        case run =>
          intro wq hS
          have s1 := drCell hS hcz
          have s3 : wq.frozen? ⟨w.heap.size, k, none⟩ = false := by obtain ⟨n, rfl⟩ := hS; exact hfz
          go_simp
        case steps =>
          simp only [putsOfG, Act.put, List.getElem?_toArray, List.getElem?_cons_succ, List.getElem?_cons_zero, Option.bind_some, Nat.reduceAdd, List.setIfInBounds_toArray, List.set_cons_zero, List.set_cons_succ]
          refine StepsG.cons rfl rfl (fun wq hS => ?_) ?_
          · have s1 := drCell hS hcz
            have s2 := drCell hS hcx
            go_simp
          refine StepsG.cons rfl rfl (fun wq hS => ?_) ?_
          · have s1 := drCell hS hcz
            have s2 := drCell hS hcx
            go_simp
          refine StepsG.cons rfl rfl (fun wq hS => ?_) ?_
          · have s1 := drCell hS hcz
            have s2 := drCell hS hcx
            go_simp
          refine StepsG.cons rfl rfl (fun wq hS => ?_) ?_
          · have s1 := drCell hS hcz
            have s2 := drCell hS hcx
            go_simp
          refine StepsG.cons rfl rfl (fun wq hS => ?_) ?_
          · have s1 := drCell hS hcz
            have s2 := drCell hS hcx
            go_simp
          refine StepsG.cons rfl rfl (fun wq hS => ?_) ?_
          · have s1 := drCell hS hcz
            have s2 := drCell hS hcx
            go_simp
          refine StepsG.cons rfl rfl (fun wq hS => ?_) ?_
          · have s1 := drCell hS hcz
            have s2 := drCell hS hcx
            go_simp
          refine StepsG.cons rfl rfl (fun wq hS => ?_) ?_
          · have s1 := drCell hS hcz
            have s2 := drCell hS hcx
            go_simp
          refine StepsG.cons rfl rfl (fun wq hS => ?_) ?_
          · have s1 := drCell hS hcz
            have s2 := drCell hS hcx
            go_simp
          refine StepsG.cons rfl rfl (fun wq hS => ?_) ?_
          · have s1 := drCell hS hcz
            have s2 := drCell hS hcx
            go_simp
          refine StepsG.cons rfl rfl (fun wq hS => ?_) ?_
          · have s1 := drCell hS hcz
            have s2 := drCell hS hcx
            go_simp
          refine StepsG.cons rfl rfl (fun wq hS => ?_) ?_
          · have s1 := drCell hS hcz
            have s2 := drCell hS hcx
            go_simp
          exact StepsG.nil
        case rest =>
          intro wq hS
          simp only [putsOfG, Act.put, List.getElem?_toArray, List.getElem?_cons_succ, List.getElem?_cons_zero, Option.bind_some, Nat.reduceAdd, List.setIfInBounds_toArray, List.set_cons_zero, List.set_cons_succ]
          go_wp2_with fail
          go_roundw
          case rel =>
            have hbq := hS.below wr.heap.size
            refine ⟨k + 1, by go_num, by omega, ?_, (hkb.dr hS).off w.heap.size (by omega) _ _, (hbel.trans (hS.below _)).setCell (p := ⟨w.heap.size, k, none⟩) (Nat.le_refl _) _⟩
            rw [← HST.out, ← arr_set]
            exact (hblk.below hbq hblk.lt).set _ _
          case measure => simp [intOf] <;> omega
      · obtain rfl : k = X.length := by omega
        have hBZ2 : Blk wr w.heap.size 3 (arr Z2) := by rw [← HZ2.out]; exact hblk
        replace oY := oY.kb hkb
        replace hbw3 := hbel
        obtain ⟨w4, rfl⟩ : ∃ wx : World, wx = wr := ⟨_, rfl⟩
        clear hblk hkb hbel hBZ hKb oX HZ0 HZL
        have hKb : Kb w4 w4 (w.heap.size + 1) := ⟨Nat.le_refl _, fun _ _ _ => rfl⟩
        go_wp2_with fail
        go_loopw [9] (fun ii wr => ∃ k : Nat, ii = .int .i64 (k : Int) ∧ k ≤ Y.length ∧ Blk wr w.heap.size 3 (arr (ad Z2 Y B k)) ∧ Kb w4 wr (w.heap.size + 1) ∧ Below w.heap.size w wr) (fun ii _ => Y.length - (intOf ii).toNat)
        case atStart => exact ⟨0, rfl, Nat.zero_le _, by rw [ad_zero]; exact hBZ2, hKb, hbw3⟩
        case round =>
          obtain ⟨k, rfl, hk, hblk, hkb, hbel⟩ := hrel
          by_cases hlt : k < Y.length
          · have hox := oY.kb hkb
            obtain ⟨gX, rfl, hcx⟩ := hox.read (k := k) (by simpa using hlt)
            rw [List.getElem_map] at hcx
            have hbx := HBY.out _ (List.getElem_mem hlt)
            have hkp : B + k < Z2.length := by rw [HZL2.out]; omega
            have hcz := hblk.cell (B + k)
            have hh := ad_here Z2 Y B k hkp
            have hst := ad_step Z2 Y B k hkp hlt
            rw [arr_get _ _ (by rw [ad_len]; exact hkp), hh] at hcz
            have hz0 : 0 ≤ Z2[B + k] ∧ Z2[B + k] ≤ 200 := HZB2.out _ (List.getElem_mem hkp)
            obtain ⟨z, hz⟩ : ∃ z, Z2[B + k] = z := ⟨_, rfl⟩
            rw [hz] at hcz hst hz0
            clear hh hz
            obtain ⟨d, hd⟩ : ∃ d, B + k = d := ⟨_, rfl⟩
            rw [hd] at hcz hst hkp
            have hdp : (d : Int) < (p : Int) + 1 := by rw [HZL2.out] at hkp; omega
            have hdi : (k : Int) + (B : Int) = (d : Int) := by omega
            have hwd : IntKind.i64.wrap (d : Int) = (d : Int) := IntWalk.i64_in _ (by omega)
            clear hd
            obtain ⟨x, hx⟩ : ∃ x, Y[k] = x := ⟨_, rfl⟩
            rw [hx] at hcx hbx hst
            have hx0 := hbx.1
            have hx1 := hbx.2
            have hz1 := hz0.1
            have hz2 := hz0.2
            have hws : IntKind.i64.wrap (z + x) = z + x := IntWalk.i64_in _ (by omega)
            have hfz := hblk.free d
            have hne : gX ≠ w.heap.size := by have := hox.base gX rfl; omega
            have HST := Lib.hid hst
            clear hx hbx hst
            go_wp2_with fail
            refine wp_region_store [0, 1, 2, 3, 4, 5, 6, 7, 8, 9, 10, 11, 12, 13, 14, 15] [.slice (some ⟨w.heap.size, 0, none⟩) (p + 1) (p + 1), .int .i64 k, .int .i64 B, .int .i64 d, .slice (some ⟨w.heap.size, 0, none⟩) (p + 1) (p + 1), .int .i64 k, .int .i64 B, .int .i64 d, .pointer (some ⟨w.heap.size, d, none⟩), .int .i64 z, .slice (some ⟨gX, 0, none⟩) Y.length cY, .int .i64 k, .pointer (some ⟨gX, k, none⟩), .int .i64 x, .int .i64 (z + x), .pointer (some ⟨w.heap.size, d, none⟩)] (fun w' => Dr wr w') _ hmx (fun _ h => h) rfl (by kernel_rfl) (by kernel_rfl) rfl rfl (by kernel_rfl) (by kernel_rfl) _ rfl rfl rfl 3 _ _ rfl ⟨w.heap.size, d, none⟩ (.int .i64 (z + x)) ?hx ?hy ?run ?steps ?rest
            case hx => simp only [putsOfG, Act.put, List.getElem?_toArray, List.getElem?_cons_succ, List.getElem?_cons_zero, Option.bind_some, Nat.reduceAdd, List.setIfInBounds_toArray, List.set_cons_zero, List.set_cons_succ]; rfl
            case hy => simp only [putsOfG, Act.put, List.getElem?_toArray, List.getElem?_cons_succ, List.getElem?_cons_zero, Option.bind_some, Nat.reduceAdd, List.setIfInBounds_toArray, List.set_cons_zero, List.set_cons_succ]; rfl
            case run =>
              intro wq hS
              have s1 := drCell hS hcz
              have s3 : wq.frozen? ⟨w.heap.size, d, none⟩ = false := by obtain ⟨n, rfl⟩ := hS; exact hfz
              go_simp
            case steps =>
              simp only [putsOfG, Act.put, List.getElem?_toArray, List.getElem?_cons_succ, List.getElem?_cons_zero, Option.bind_some, Nat.reduceAdd, List.setIfInBounds_toArray, List.set_cons_zero, List.set_cons_succ]
              refine StepsG.cons rfl rfl (fun wq hS => ?_) ?_
              · have s1 := drCell hS hcz
                have s2 := drCell hS hcx
                go_simp
              refine StepsG.cons rfl rfl (fun wq hS => ?_) ?_
              · have s1 := drCell hS hcz
                have s2 := drCell hS hcx
                go_simp
              refine StepsG.cons rfl rfl (fun wq hS => ?_) ?_
              · have s1 := drCell hS hcz
                have s2 := drCell hS hcx
                go_simp
              refine StepsG.cons rfl rfl (fun wq hS => ?_) ?_
              · have s1 := drCell hS hcz
                have s2 := drCell hS hcx
                go_simp
              refine StepsG.cons rfl rfl (fun wq hS => ?_) ?_
              · have s1 := drCell hS hcz
                have s2 := drCell hS hcx
                go_simp
              refine StepsG.cons rfl rfl (fun wq hS => ?_) ?_
              · have s1 := drCell hS hcz
                have s2 := drCell hS hcx
                go_simp
              refine StepsG.cons rfl rfl (fun wq hS => ?_) ?_
              · have s1 := drCell hS hcz
                have s2 := drCell hS hcx
                go_simp
              refine StepsG.cons rfl rfl (fun wq hS => ?_) ?_
              · have s1 := drCell hS hcz
                have s2 := drCell hS hcx
                go_simp
              refine StepsG.cons rfl rfl (fun wq hS => ?_) ?_
              · have s1 := drCell hS hcz
                have s2 := drCell hS hcx
                go_simp
              refine StepsG.cons rfl rfl (fun wq hS => ?_) ?_
              · have s1 := drCell hS hcz
                have s2 := drCell hS hcx
                go_simp
              refine StepsG.cons rfl rfl (fun wq hS => ?_) ?_
              · have s1 := drCell hS hcz
                have s2 := drCell hS hcx
                go_simp
              refine StepsG.cons rfl rfl (fun wq hS => ?_) ?_
              · have s1 := drCell hS hcz
                have s2 := drCell hS hcx
                go_simp
              refine StepsG.cons rfl rfl (fun wq hS => ?_) ?_
              · have s1 := drCell hS hcz
                have s2 := drCell hS hcx
                go_simp
              refine StepsG.cons rfl rfl (fun wq hS => ?_) ?_
              · have s1 := drCell hS hcz
                have s2 := drCell hS hcx
                go_simp
              refine StepsG.cons rfl rfl (fun wq hS => ?_) ?_
              · have s1 := drCell hS hcz
                have s2 := drCell hS hcx
                go_simp
              refine StepsG.cons rfl rfl (fun wq hS => ?_) ?_
              · have s1 := drCell hS hcz
                have s2 := drCell hS hcx
                go_simp
              exact StepsG.nil
            case rest =>
              intro wq hS
              simp only [putsOfG, Act.put, List.getElem?_toArray, List.getElem?_cons_succ, List.getElem?_cons_zero, Option.bind_some, Nat.reduceAdd, List.setIfInBounds_toArray, List.set_cons_zero, List.set_cons_succ]
              go_wp2_with fail
              go_roundw
              case rel =>
                have hbq := hS.below wr.heap.size
                refine ⟨k + 1, by go_num, by omega, ?_, (hkb.dr hS).off w.heap.size (by omega) _ _, (hbel.trans (hS.below _)).setCell (p := ⟨w.heap.size, d, none⟩) (Nat.le_refl _) _⟩
                rw [← HST.out, ← arr_set]
                exact (hblk.below hbq hblk.lt).set _ _
              case measure => simp [intOf] <;> omega
          · obtain rfl : k = Y.length := by omega
            go_wp2_with fail
            go_ret
            have hown := hblk.own (lo := w.heap.size) (Nat.le_refl _) (by rw [List.length_map, ad_len, HZL2.out]; unfold maxLen; omega)
            rw [List.length_map] at hown
            have e1 : (ad Z2 Y B Y.length).length = p + 1 := by rw [ad_len, HZL2.out]
            rw [e1] at hown ⊢
            exact ⟨_, p + 1, rfl, hown, hbel⟩
end Go.Proofs.Ytcjnmconehfbgaa
namespace Go.Proofs.Ytcjnmconehfbgaa
open Go.RowKit NP
set_option maxRecDepth 8000
set_option linter.unusedVariables false
set_option linter.unusedSimpArgs false
/-- whether parts are in a box -/
def HB (a b : Nat) (P : List Int) : Bool := decide ((P.length : Int) ≤ (a : Int) ∧ P.headD 0 ≤ (b : Int))
/-- the parts with a sum in a box -/
def LB (a b s : Nat) : List (List Int) := (allQ s s s).filter (HB a b)
theorem holds_isK (a b : Nat) (w : World) : IsK w (.func (.func 81) #[.agg #[.int .i64 (a : Int), .int .i64 (b : Int)]] #[]) (HB a b) :=
  ⟨_, _, _, rfl, enters_of Try.func81 (by kernel_rfl) rfl, fun w1 _ L hL => holds_any a b L hL w1⟩
/-- lists of numbers, each in a block of its own -/
structure InnV (w : World) (lo hi : Nat) (e : TypeId) (us : List Value) (LL : List (List Int)) : Prop where
  len : us.length = LL.length
  inner : ∀ (k : Nat) u L, us[k]? = some u → LL[k]? = some L → Own w lo hi e u (ints L)
  apart : ∀ (j k : Nat) u u' g, us[j]? = some u → us[k]? = some u' → u.ownBlock = some g → u'.ownBlock = some g → j = k
theorem InnV.kb {w w' : World} {lo hi lo' : Nat} {e : TypeId} {us : List Value} {LL : List (List Int)} (h : InnV w lo hi e us LL) (k : Kb w w' lo') (hl : lo' ≤ lo) : InnV w' lo hi e us LL :=
  ⟨h.len, fun j u L hu hL => ((h.inner j u L hu hL).lower (Nat.le_refl _)).keep k.1 fun g hg => k.2 g (Nat.le_trans hl ((h.inner j u L hu hL).base g hg)) (Nat.lt_of_lt_of_le ((h.inner j u L hu hL).lt g hg) (h.inner j u L hu hL).le), h.apart⟩
theorem InnV.nil (w : World) (lo hi : Nat) (e : TypeId) : InnV w lo hi e [] [] := ⟨rfl, fun k u L hu => by simp at hu, fun j k u u' g hu => by simp at hu⟩
theorem OwnLL.innV {w : World} {lo hi : Nat} {eo e : TypeId} {v : Value} {vs : List Value} {LL : List (List Int)} (h : OwnLL w lo hi eo e v vs LL) : InnV w lo hi e vs LL := ⟨h.len, h.inner, h.apart⟩
theorem InnV.append {w : World} {lo mid hi : Nat} {e : TypeId} {us us' : List Value} {LL LL' : List (List Int)} (h : InnV w lo mid e us LL) (h' : InnV w mid hi e us' LL') (hl : lo ≤ mid) (hm : mid ≤ hi) (hw : hi = w.heap.size) : InnV w lo hi e (us ++ us') (LL ++ LL') := by
  subst hw
  have hlen := h.len
  have split : ∀ (k : Nat) (u : Value), (us ++ us')[k]? = some u → (k < us.length ∧ us[k]? = some u) ∨ (us.length ≤ k ∧ us'[k - us.length]? = some u) := fun k u hu => by
    by_cases hk : k < us.length
    · rw [List.getElem?_append_left hk] at hu; exact .inl ⟨hk, hu⟩
    · rw [List.getElem?_append_right (by omega)] at hu; exact .inr ⟨by omega, hu⟩
  have low : ∀ (k : Nat) (u : Value) (g : Nat), us[k]? = some u → u.ownBlock = some g → g < mid := fun k u g hu hg => by
    have hk := (List.getElem?_eq_some_iff.1 hu).1
    have := h.inner k u LL[k] hu (List.getElem?_eq_getElem (by omega))
    exact this.lt g hg
  have high : ∀ (k : Nat) (u : Value) (g : Nat), us'[k]? = some u → u.ownBlock = some g → mid ≤ g := fun k u g hu hg => by
    have hk := (List.getElem?_eq_some_iff.1 hu).1
    have hl' := h'.len
    have := h'.inner k u LL'[k] hu (List.getElem?_eq_getElem (by omega))
    exact this.base g hg
  refine ⟨by rw [List.length_append, List.length_append, h.len, h'.len], fun k u L hu hL => ?_, fun j k u u' g hu hu' hg hg' => ?_⟩
  · rcases split k u hu with ⟨hk, hu1⟩ | ⟨hk, hu1⟩
    · rw [List.getElem?_append_left (by omega)] at hL
      exact (h.inner k u L hu1 hL).more
    · rw [List.getElem?_append_right (by omega), ← hlen] at hL
      exact (h'.inner _ u L hu1 hL).lower hl
  · rcases split j u hu with ⟨hj, hu1⟩ | ⟨hj, hu1⟩ <;> rcases split k u' hu' with ⟨hk, hu2⟩ | ⟨hk, hu2⟩
    · exact h.apart j k u u' g hu1 hu2 hg hg'
    · have h1 := low j u g hu1 hg; have h2 := high _ u' g hu2 hg'; omega
    · have h1 := low k u' g hu2 hg'; have h2 := high _ u g hu1 hg; omega
    · have := h'.apart _ _ u u' g hu1 hu2 hg hg'; omega
theorem InnV.more {w : World} {lo hi : Nat} {e : TypeId} {us : List Value} {LL : List (List Int)} (h : InnV w lo hi e us LL) : InnV w lo w.heap.size e us LL := ⟨h.len, fun k u L hu hL => (h.inner k u L hu hL).more, h.apart⟩
/-- the first k lists of lists, by sums -/
structure BS (w : World) (lo a b k : Nat) (outs : List Value) (vss : List (List Value)) : Prop where
  lenO : outs.length = k
  lenV : vss.length = k
  rows : ∀ (j : Nat) u vs, outs[j]? = some u → vss[j]? = some vs → Own w lo w.heap.size 22 u vs ∧ vs.length = (LB a b j).length
  inn : InnV w lo w.heap.size 3 vss.flatten ((List.range k).flatMap (LB a b))
theorem BS.kb {w w' : World} {lo a b k : Nat} {outs : List Value} {vss : List (List Value)} (h : BS w lo a b k outs vss) (hk : Kb w w' lo) : BS w' lo a b k outs vss :=
  ⟨h.lenO, h.lenV, fun j u vs hu hv => ⟨((h.rows j u vs hu hv).1.kb hk).more, (h.rows j u vs hu hv).2⟩, (h.inn.kb hk (Nat.le_refl _)).more⟩
theorem BS.next {w w' : World} {lo a b k : Nat} {outs : List Value} {vss : List (List Value)} {u : Value} {us : List Value} (h : BS w lo a b k outs vss) (hb : Below w.heap.size w w') (hlo : lo ≤ w.heap.size) (hu : OwnLL w' w.heap.size w'.heap.size 22 3 u us (LB a b k)) : BS w' lo a b (k + 1) (outs ++ [u]) (vss ++ [us]) := by
  have hkb : Kb w w' lo := ⟨hb.size, fun g _ h2 => hb.block g h2⟩
  have h0 := h.kb hkb
  refine ⟨by simp [h.lenO], by simp [h.lenV], fun j x vs hx hv => ?_, ?_⟩
  · by_cases hj : j < k
    · rw [List.getElem?_append_left (by rw [h.lenO]; exact hj)] at hx
      rw [List.getElem?_append_left (by rw [h.lenV]; exact hj)] at hv
      exact h0.rows j x vs hx hv
    · rw [List.getElem?_append_right (by rw [h.lenO]; omega), h.lenO] at hx
      rw [List.getElem?_append_right (by rw [h.lenV]; omega), h.lenV] at hv
      have e0 : j - k = 0 := by
        rcases Nat.eq_zero_or_pos (j - k) with z | z
        · exact z
        · rw [List.getElem?_eq_none (by simp only [List.length_singleton]; omega)] at hx; cases hx
      rw [e0] at hx hv
      cases hx; cases hv
      obtain rfl : j = k := by
        have := Nat.le_of_not_lt hj
        omega
      exact ⟨hu.outer.lower hlo, hu.len⟩
  · have e1 : (List.range (k + 1)).flatMap (LB a b) = (List.range k).flatMap (LB a b) ++ LB a b k := by rw [List.range_succ, List.flatMap_append]; simp
    rw [e1, List.flatten_append, List.flatten_singleton]
    exact InnV.append (h.inn.kb hkb (Nat.le_refl _)) hu.innV hlo hb.size rfl
set_option maxRecDepth 100000 in
set_option maxHeartbeats 4000000 in
theorem partsBySum_any (a b : Nat) (ha : a ≤ 4) (hb4 : b ≤ 4) (w : World) :
    Calls Try.prog 58 #[.agg #[.int .i64 (a : Int), .int .i64 (b : Int)]] w fun e w' => ∃ outs vss, e = .returned (.slice (some ⟨w.heap.size + 1, 0, none⟩) (a * b + 1) (a * b + 1)) ∧ Blk w' (w.heap.size + 1) 36 (outs : List Value).toArray ∧ BS w' (w.heap.size + 2) a b (a * b + 1) outs vss ∧ Below w.heap.size w w' := by
  obtain ⟨p, hp⟩ : ∃ p, a * b = p := ⟨_, rfl⟩
  have hp16 : p ≤ 16 := by rw [← hp]; exact Nat.le_trans (Nat.mul_le_mul ha hb4) (by omega)
  have hpi : ((a : Nat) : Int) * ((b : Nat) : Int) = (p : Int) := by rw [← Int.natCast_mul, hp]
  rw [hp]
  clear hp
  obtain ⟨Zs, hZs⟩ : ∃ Zs, List.replicate (p + 1) (Value.slice none 0 0) = Zs := ⟨_, rfl⟩
  have hmk : ∀ w, (Instr.makeSlice 44 (.int .i64 ((p : Int) + 1)) (.int .i64 ((p : Int) + 1))).run Try.prog w = .ok (.slice (some ⟨w.heap.size, 0, none⟩) (p + 1) (p + 1)) (w.alloc (.cells Zs.toArray 36)) := fun w => by rw [← hZs]; exact run_make_lists (P := Try.prog) 44 36 _ Try.underlying44 rfl rfl rfl rfl (p + 1) (by omega) w
  obtain ⟨w2, hw2⟩ : ∃ w2, w2 = (w.alloc (.cells #[.int .i64 (a : Int), .int .i64 (b : Int)] 61)).alloc (.cells Zs.toArray 36) := ⟨_, rfl⟩
  have hbx : Blk w2 w.heap.size 61 #[.int .i64 (a : Int), .int .i64 (b : Int)] := by rw [hw2]; exact (Blk.new w _ _).alloc _
  have hrow : Blk w2 (w.heap.size + 1) 36 (([] : List Value) ++ List.replicate (p + 1 - 0) (Value.slice none 0 0)).toArray := by
    have e := Blk.new (w.alloc (.cells #[.int .i64 (a : Int), .int .i64 (b : Int)] 61)) 36 Zs.toArray
    rw [World.size_alloc] at e
    rw [hw2, List.nil_append, Nat.sub_zero, hZs]; exact e
  have hbw2 : Below w.heap.size w w2 := hw2 ▸ ((Below.refl _ _).alloc (Nat.le_refl _) _).alloc (by simp) _
  have hz2 : w.heap.size + 2 ≤ w2.heap.size := by rw [hw2]; simp
  have HW2 := Lib.hid hw2
  clear hw2 hZs
  go_enter Try.func58, Try.ntmps58
  go_wp2_with fail
  rw [← HW2.out]
  clear hmk hpi
  go_loopw [14] (fun ii wr => ∃ (k : Nat) (outs : List Value) (vss : List (List Value)), ii = .int .i64 (k : Int) ∧ k ≤ p + 1 ∧ Blk wr w.heap.size 61 #[.int .i64 (a : Int), .int .i64 (b : Int)] ∧ Blk wr (w.heap.size + 1) 36 (outs ++ List.replicate (p + 1 - k) (Value.slice none 0 0)).toArray ∧ BS wr (w.heap.size + 2) a b k outs vss ∧ w.heap.size + 2 ≤ wr.heap.size ∧ Below w.heap.size w wr) (fun ii _ => p + 1 - (intOf ii).toNat)
  case atStart => exact ⟨0, [], [], rfl, Nat.zero_le _, hbx, hrow, ⟨rfl, rfl, fun j u vs hu => by simp at hu, InnV.nil _ _ _ _⟩, hz2, hbw2⟩
  case round =>
    obtain ⟨k, outs, vss, rfl, hk, hblx, hblk, hbs, hzr, hbel⟩ := hrel
    by_cases hlt : k < p + 1
    · have hlt' : (k : Int) < (p : Int) + 1 := by omega
      have cb : wr.heap[w.heap.size]? = some (.cells #[.int .i64 (a : Int), .int .i64 (b : Int)] 61 (0, 0)) := hblx
      have HL := Lib.hid hbs.lenO
      have HBS := Lib.hid hbs
      have c0 := hblx.cell 0
      have c1 := hblx.cell 1
      simp only [List.getElem?_toArray, List.getElem?_cons_zero, List.getElem?_cons_succ] at c0 c1
      have hck : wr.cell? ⟨w.heap.size + 1, k, none⟩ = some (.slice none 0 0) := by
        rw [hblk.cell k, List.getElem?_toArray, List.getElem?_append_right (by rw [HL.out]; omega), HL.out, List.getElem?_replicate, if_pos (by omega)]
      have HBK := Lib.hid hblk
      clear hbs hblk
      go_wp2_with (go_at_call 80; refine (partsWhere_all k (by omega) _ (HB a b) _ (holds_isK a b _)).mono ?_; rintro e w3 ⟨a3, c3, us, rfl, h3, hb3⟩; have hck3 := (hb3.cell (p := ⟨w.heap.size + 1, k, none⟩) (World.block_lt_of_cell? _ _ hck)).trans hck; have hfz3 := (HBK.out.below hb3 HBK.out.lt).free k)
      go_roundw
      case rel =>
        have hb3' := HBK.out.below hb3 HBK.out.lt
        have hz3 := hb3.size
        have hkb : ∀ u, Kb w3 (w3.setCell ⟨w.heap.size + 1, k, none⟩ u) (w.heap.size + 2) := fun u => ⟨by simp [World.setCell], fun g h1 _ => Below.heap_setCell w3 ⟨w.heap.size + 1, k, none⟩ u g (by show g ≠ w.heap.size + 1; omega)⟩
        refine ⟨k + 1, outs ++ [.slice a3 (LB a b k).length c3], vss ++ [us], by go_num, by omega, (hblx.below hb3 hblx.lt).off (by simp) _, ?_, (HBS.out.next hb3 hzr h3).kb (hkb _), by simp [World.setCell]; omega, (hbel.trans (hb3.mono hbel.size)).setCell (p := ⟨w.heap.size + 1, k, none⟩) (by simp) _⟩
        have h5 := hb3'.set k (.slice a3 (LB a b k).length c3)
        rw [List.setIfInBounds_toArray, fill_setV HL.out hlt] at h5
        exact h5
      case measure => simp [intOf] <;> omega
    · obtain rfl : k = p + 1 := by omega
      have HBS := Lib.hid hbs
      have HBK := Lib.hid hblk
      clear hbs hblk
      go_wp2_with fail
      go_ret
      have h5 := HBK.out
      rw [Nat.sub_self, List.replicate_zero, List.append_nil] at h5
      exact ⟨outs, vss, rfl, h5, HBS.out, hbel⟩
end Go.Proofs.Ytcjnmconehfbgaa
namespace Go.Proofs.Ytcjnmconehfbgaa
open Go.RowKit NP
set_option maxRecDepth 8000
set_option linter.unusedVariables false
set_option linter.unusedSimpArgs false



theorem keep_offD {w w1 : World} {lo : Nat} {e : TypeId} {v : Value} {vs : List Value} {o : Obj} {n c : Nat} (h : Own w lo w.heap.size e v vs) (hg : (w.alloc o).grownBy w1 (Value.slice (some ⟨w.heap.size, 0, none⟩) n c).ownBlock) : Own w1 lo w1.heap.size e v vs :=
  ((h.alloc o).grown hg (by
    cases hb : v.ownBlock with
    | none => exact .inl rfl
    | some g => exact .inr fun e => by have := h.lt g hb; simp [Value.ownBlock] at e; omega)).more
theorem small_of_parts' {M : List Int} (h : SmallParts M) : Small M := ⟨by have := h.1; omega, fun x hx => by have := h.2 x hx; omega⟩
theorem small_of_valid {M : List Int} (h : valid M = true) : Small M := by
  have hb := valid_bd h
  refine ⟨by omega, fun x hx => ?_⟩
  obtain ⟨k, hk, rfl⟩ := List.getElem_of_mem hx
  have := preS_of_valid h k hk hk
  omega





end Go.Proofs.Ytcjnmconehfbgaa
namespace Go.Proofs.Ytcjnmconehfbgaa
open Go.RowKit Go.Lib NP
set_option maxRecDepth 8000
set_option linter.unusedVariables false
set_option linter.unusedSimpArgs false
theorem wpList_append_n {P : Program} (w w' : World) {ops : Array Oper} {rest : List Oper} {o : Oper} {a : Act} {Q : Exit → Act → World → Prop} (hgd : o.guard = none) (s x : Operand) (t tn : TypeId)
    (ho : o.op = .call { callee := .builtin .append, args := #[s, x], argTypes := #[t, tn] }) (v u v' : Value) (hs : a.eval s = v) (hx : a.eval x = u) (hrun : (Builtin.append_ #[t, tn] o.type #[v, u]).run P w = .ok v' w')
    (h : wpList P ops Q rest (a.put o.dst v') w') : wpList P ops Q (o :: rest) a w :=
  wpList_plain hgd fun _ hK => by
    unfold Oper.wp execOp
    simp only [ho, resolve, invoke, builtin, Sem.run_bind, Sem.run_pure, Result.andThen_ok, List.map_toArray, List.map_cons, List.map_nil, hs, hx]
    rw [hrun]
    exact hK _ _ h
theorem run_first_none {P : Program} (w : World) (i : TypeInfo) : (Builtin.firstCells i.size 0 (.slice none 0 0)).run P w = .ok ([] : List Value).toArray w := run_firstCells_none w i.size 0 0 0
set_option maxHeartbeats 2000000 in
theorem grow_nil (n : Nat) (hn : 0 < n) (hn2 : n ≤ 100000) (w : World) :
    Calls Try.prog 82 #[.slice none 0 0, .int .i64 (n : Int)] w fun e w' => ∃ c', e = .returned (.slice (some ⟨w.heap.size, 0, none⟩) 0 c') ∧ Own w' w.heap.size w'.heap.size 22 (.slice (some ⟨w.heap.size, 0, none⟩) 0 c') [] ∧ Below w.heap.size w w' := by
  obtain ⟨i1, hj, hy0, hy1, hy2⟩ := info_parts T_ints2
  have hge := grownCap_ge w n 0 22
  have hle := grownCap_le_maxLen w n 0 22 (by unfold maxLen; omega)
  have hap := run_append_grow_zeros (P := Try.prog) w 36 3 36 22 i1 (.slice none 0 0) .i64 .i64 Try.underlying36 Try.underlying3 hj hy0 none 0 0 [] (run_first_none _ i1) n hn (by omega) (by omega) (by omega) (by rw [hy2]; omega) (growslice_fits (by omega) (by rw [hy2]; omega))
  rw [Nat.zero_add] at hap
  obtain ⟨c, hc⟩ : ∃ c, grownCap w n 0 22 = c := ⟨_, rfl⟩
  rw [hc] at hap hge hle
  clear hc
  obtain ⟨cur, hcur⟩ : ∃ cur : Array Value, ([] : List Value).toArray ++ Builtin.zeroCells (Value.slice none 0 0).cells n ++ Builtin.zeroCells (Value.slice none 0 0).cells (c - n) = cur := ⟨_, rfl⟩
  have hsz : cur.size = c * 1 := by
    rw [← hcur]
    simp [Builtin.zeroCells, Value.cells]
    omega
  rw [hcur] at hap
  clear hcur
  have d1 : decide ((n : Int) < 0) = false := decide_eq_false (by omega)
  have d2 : (0 : Int) < (n : Int) := by omega
  have HF : Own (w.drew.alloc (.cells cur 22)) w.heap.size (w.drew.alloc (.cells cur 22)).heap.size 22 (.slice (some ⟨w.heap.size, 0, none⟩) 0 c) [] :=
    ⟨⟨rfl, .inr ⟨w.heap.size, c, cur, rfl, Nat.le_refl _, World.alloc_heap_new w.drew _, Nat.zero_le _, hle, hsz, by simp⟩⟩, fun g hg => by cases hg; rw [World.size_alloc]; exact Nat.lt_succ_self _, Nat.le_refl _⟩
  have HO := Lib.hid HF
  clear HF hsz
  go_enter Try.func82, Try.ntmps82
  go_wp2_with (at_builtin; refine wpList_append_n _ _ rfl (.tmp 20) (.tmp 21) 36 3 rfl (.slice none 0 0) (.int .i64 (n : Int)) _ rfl rfl hap ?_)
  go_ret
  exact ⟨c, rfl, HO.out, ((Dr.n w 1).below _).alloc (Nat.le_refl _) _⟩
theorem flat_next {vss : List (List Value)} {k : Nat} (hk : k < vss.length) : (vss.take (k + 1)).flatten = (vss.take k).flatten ++ vss[k] := by
  rw [List.take_succ_eq_append_getElem hk, List.flatten_append]; simp
theorem flat_le {vss : List (List Value)} (h : ∀ vs ∈ vss, vs.length ≤ 1000) : ∀ k, k ≤ vss.length → ((vss.take k).flatten).length ≤ 1000 * k := by
  intro k
  induction k with
  | zero => intro _; simp
  | succ k ih =>
    intro hk
    rw [flat_next (by omega), List.length_append]
    have := ih (by omega)
    have := h _ (List.getElem_mem (show k < vss.length by omega))
    omega
set_option maxRecDepth 100000 in
set_option maxHeartbeats 4000000 in
theorem concat_any (gS N : Nat) (outs : List Value) (vss : List (List Value)) (lo : Nat) (w : World) (hN : N ≤ 17) (hN1 : 0 < N) (hO : outs.length = N) (hV : vss.length = N) (hS : Blk w gS 36 outs.toArray)
    (hrows : ∀ (j : Nat) u vs, outs[j]? = some u → vss[j]? = some vs → Own w lo w.heap.size 22 u vs ∧ vs.length ≤ 1000) (hone : ∀ vs ∈ vss, ∀ u ∈ vs, u.oneCell' = true) (hpos : 0 < vss.flatten.length) :
    Calls Try.prog 61 #[.slice (some ⟨gS, 0, none⟩) N N] w fun e w' => ∃ a' c', e = .returned (.slice a' vss.flatten.length c') ∧ Own w' w.heap.size w'.heap.size 22 (.slice a' vss.flatten.length c') vss.flatten ∧ Below w.heap.size w w' := by
  obtain ⟨i1, hj, hy0, hy1, hy2⟩ := info_parts T_ints2
  have HFN := Lib.hid (fun k (hk : k < vss.length) => flat_next hk)
  have hlen : ∀ vs ∈ vss, vs.length ≤ 1000 := fun vs hvs => by
    obtain ⟨j, hj, rfl⟩ := List.getElem_of_mem hvs
    exact (hrows j outs[j] _ (List.getElem?_eq_getElem (by omega)) (List.getElem?_eq_getElem hj)).2
  have HFL := Lib.hid (flat_le hlen)
  have HF0 : Hid (((vss.take N).flatten) = vss.flatten) := Lib.hid (by rw [← hV, List.take_length])
  have HR := Lib.hid hrows
  have HONE := Lib.hid hone
  have HO := Lib.hid hO
  have HV := Lib.hid hV
  have HPOS := Lib.hid hpos
  have hgS := hS.lt
  clear hrows hlen hO hV hpos hone
  go_enter Try.func61, Try.ntmps61
  go_wp2_with fail
  go_loopw [3, 11] (fun z ii wr => ∃ k : Nat, ii = .int .i64 (k : Int) ∧ k ≤ N ∧ z = .int .i64 (((vss.take k).flatten).length : Int) ∧ Dr w wr) (fun _ ii _ => N - (intOf ii).toNat)
  case atStart => exact ⟨0, rfl, Nat.zero_le _, rfl, Dr.refl _⟩
  case round =>
    obtain ⟨k, rfl, hk, rfl, hd⟩ := hrel
    have hfl := HFL.out k (by rw [HV.out]; exact hk)
    by_cases hlt : k < N
    · have hlt' : (k : Int) < (N : Int) := by omega
      have hko : k < outs.length := by rw [HO.out]; exact hlt
      have hkv : k < vss.length := by rw [HV.out]; exact hlt
      obtain ⟨hou, hlv⟩ := HR.out k outs[k] vss[k] (List.getElem?_eq_getElem hko) (List.getElem?_eq_getElem hkv)
      obtain ⟨a3, c3, hu⟩ := hou.form
      have hnx := HFN.out k hkv
      obtain ⟨l, hl⟩ : ∃ l, vss[k].length = l := ⟨_, rfl⟩
      have hnl : ((vss.take (k + 1)).flatten).length = ((vss.take k).flatten).length + l := by rw [hnx, List.length_append, hl]
      obtain ⟨f, hf⟩ : ∃ f, ((vss.take k).flatten).length = f := ⟨_, rfl⟩
      rw [hl] at hu hlv
      rw [hf] at hnl hfl ⊢
      have HNL := Lib.hid hnl
      have hcu : wr.cell? ⟨gS, k, none⟩ = some (.slice a3 l c3) := by
        obtain ⟨n, rfl⟩ := hd
        rw [← hu]
        have h1 := hS.cell k
        rw [List.getElem?_toArray, List.getElem?_eq_getElem hko] at h1
        exact h1
      have hfl0 : ¬ ((f : Int) + (l : Int) < 0) := by omega
      have d1 : decide ((f : Int) + (l : Int) < 0) = false := decide_eq_false hfl0
      have hw1 : wrap64 ((f : Int) + (l : Int)) = (f : Int) + (l : Int) := IntWalk.wrap64_in _ (by omega)
      clear hou hnx hl hnl hf hu hfl0 hfl
      go_wp2_with fail
      go_roundw
      case rel => exact ⟨k + 1, by go_num, by omega, by rw [HNL.out]; go_num, hd⟩
      case measure => simp [intOf]; omega
    · obtain rfl : k = N := by omega
      rw [HF0.out] at hfl ⊢
      have hp := HPOS.out
      obtain ⟨f, hf⟩ : ∃ f, vss.flatten.length = f := ⟨_, rfl⟩
      rw [hf] at hfl hp ⊢
      have HFF := Lib.hid hf
      have hbd := hd.below w.heap.size
      have hSr : Blk wr gS 36 outs.toArray := hS.below hbd hgS
      have hzd := hd.size
      clear hf
      go_wp2_with fail
      refine (grow_nil f hp (by omega) wr).mono ?_
      rintro e w2 ⟨cg, rfl, og, hb2⟩
      have hS2 : Blk w2 gS 36 outs.toArray := hSr.below hb2 hSr.lt
      have hbw2 : Below w.heap.size w w2 := hbd.trans (hb2.mono (by omega))
      have hz2 := hb2.size
      have og2 := og.lower (lo' := w.heap.size) (by omega)
      rw [hzd] at hz2
      clear hd hSr hbd hb2 og hzd
      go_wp2_with fail
      go_loopw [6, 27] (fun v ii wr => ∃ j : Nat, ii = .int .i64 (j : Int) ∧ j ≤ k ∧ Own wr w.heap.size wr.heap.size 22 v ((vss.take j).flatten) ∧ Below w.heap.size w wr) (fun _ ii _ => k - (intOf ii).toNat)
      case atStart => exact ⟨0, rfl, Nat.zero_le _, by simpa using og2.more, hbw2⟩
      case round =>
        obtain ⟨j, rfl, hj2, ho, hbel⟩ := hrel
        by_cases hlt : j < k
        · have hlt' : (j : Int) < (k : Int) := by omega
          have hko : j < outs.length := by rw [HO.out]; exact hlt
          have hkv : j < vss.length := by rw [HV.out]; exact hlt
          obtain ⟨hou, hlv⟩ := HR.out j outs[j] vss[j] (List.getElem?_eq_getElem hko) (List.getElem?_eq_getElem hkv)
          obtain ⟨a3, c3, hu⟩ := hou.form
          have hone := HONE.out vss[j] (List.getElem_mem hkv)
          have HNX := Lib.hid (HFN.out j hkv)
          have hfl := HFL.out j (Nat.le_of_lt hkv)
          obtain ⟨us, hus⟩ : ∃ us, vss[j] = us := ⟨_, rfl⟩
          rw [hus] at hu hlv hou hone HNX
          have hcu : wr.cell? ⟨gS, j, none⟩ = some (.slice a3 us.length c3) := by
            rw [← hu]
            have h1 := (hS.below hbel hgS).cell j
            rw [List.getElem?_toArray, List.getElem?_eq_getElem hko] at h1
            exact h1
          rw [hu] at hou
          have HRD := Lib.hid ((hou.below hbel).rd)
          obtain ⟨fs, hfs⟩ : ∃ fs, (vss.take j).flatten = fs := ⟨_, rfl⟩
          rw [hfs] at ho hfl HNX
          have hfl2 : fs.length ≤ 17000 := by omega
          have HOW := Lib.hid ho
          have HON := Lib.hid hone
          have hbz := hbel.size
          clear hou hu hus hfl hfs ho hone hko hkv
          go_wp2_with (at_builtin; refine wpList_append_o _ rfl (.tmp 31) (.tmp 32) 36 rfl w.heap.size wr.heap.size 22 i1 (.slice none 0 0) 24 Try.underlying36 hj hy0 hy1 hy2 rfl _ fs rfl HOW.out w.heap.size a3 us.length c3 us rfl HRD.out rfl HON.out (by unfold maxLen; omega) (by omega) hbz ?_; intro v' w3 ho3 hg3 hat3)
          go_roundw
          case rel =>
            refine ⟨j + 1, by go_num, by omega, by rw [HNX.out]; exact ho3, hbel.grown hg3 hbz (fun g e => HOW.out.base g e)⟩
          case measure => simp [intOf]; omega
        · obtain rfl : j = k := by omega
          obtain ⟨a4, c4, rfl⟩ := ho.form
          have HOW := Lib.hid ho
          clear ho
          go_wp2_with fail
          go_ret
          have h1 := HOW.out
          have e1 := HF0.out
          have e2 : ((vss.take j).flatten).length = f := by rw [e1, HFF.out]
          rw [e2] at h1 ⊢
          rw [e1] at h1
          rw [← HFF.out] at h1
          exact ⟨a4, c4, by rw [HFF.out]; rfl, h1, hbel⟩
end Go.Proofs.Ytcjnmconehfbgaa
namespace Go.Proofs.Ytcjnmconehfbgaa
open Go.RowKit NP
set_option linter.unusedVariables false
def rowB (a b : Nat) : List Int := (List.range (a * b + 1)).map fun s => ((LB a b s).length : Int)
def rowTab : Bool := (List.range 5).all fun a => (List.range 5).all fun b => gbox a b == rowB a b
set_option maxRecDepth 100000 in
theorem rowTab_all : rowTab = true := by decide +kernel
theorem rowB_gbox {a b : Nat} (ha : a ≤ 4) (hb : b ≤ 4) : gbox a b = rowB a b := by
  have h := rowTab_all
  unfold rowTab at h
  have h1 := List.all_eq_true.1 h a (by simp; omega)
  have h2 := List.all_eq_true.1 h1 b (by simp; omega)
  exact eq_of_beq h2
def brF (a b : Int) : List Int := if limB a b then gbox a.toNat b.toNat else []
theorem brF_len (a b : Int) : (brF a b).length ≤ 17 := by
  unfold brF
  split
  · rename_i h
    unfold limB at h
    simp only [decide_eq_true_eq] at h
    rw [gbox_len]
    have := Nat.mul_le_mul (show a.toNat ≤ 4 by omega) (show b.toNat ≤ 4 by omega)
    omega
  · simp
end Go.Proofs.Ytcjnmconehfbgaa
namespace Go.Proofs.Ytcjnmconehfbgaa
open Go.RowKit NP
set_option linter.unusedVariables false
/-- the model's parts with a sum in a box -/
def LM (a b s : Nat) : List (List Int) := (allQ s s b).filter fun L => decide ((L.length : Int) ≤ (a : Int))
def BPL (a b k : Nat) : List (List Int) := (List.range k).flatMap (LB a b)
def bpTab : Bool := (List.range 5).all fun a => (List.range 5).all fun b => ((List.range (a * b + 1)).all fun s => LM a b s == LB a b s && decide ((allQ s s b).length ≤ 400)) && decide ((BPL a b (a * b + 1)).length ≤ 100) && decide (cntLL (BPL a b (a * b + 1)) ≤ 1000) && decide (1 ≤ (BPL a b (a * b + 1)).length) && (BPL a b (a * b + 1)).all fun L => valid L && decide (L.length ≤ 16)
set_option maxRecDepth 100000 in
theorem bpTab_all : bpTab = true := by decide +kernel
theorem bp_row {a b : Nat} (ha : a ≤ 4) (hb : b ≤ 4) : (∀ s, s ≤ a * b → LM a b s = LB a b s ∧ (allQ s s b).length ≤ 400) ∧ (BPL a b (a * b + 1)).length ≤ 100 ∧ cntLL (BPL a b (a * b + 1)) ≤ 1000 ∧ 1 ≤ (BPL a b (a * b + 1)).length ∧ ∀ L ∈ BPL a b (a * b + 1), valid L = true ∧ L.length ≤ 16 := by
  have h := bpTab_all
  unfold bpTab at h
  have h1 := List.all_eq_true.1 h a (by simp; omega)
  have h2 := List.all_eq_true.1 h1 b (by simp; omega)
  simp only [Bool.and_eq_true, decide_eq_true_eq, List.all_eq_true, List.mem_range, beq_iff_eq] at h2
  obtain ⟨⟨⟨⟨k1, k2⟩, k3⟩, k4⟩, k5⟩ := h2
  exact ⟨fun s hs => k1 s (by omega), k2, k3, k4, k5⟩
def bpF (a b : Int) : List (List Int) := if limB a b then BPL a.toNat b.toNat (a.toNat * b.toNat + 1) else []
theorem limB_le {a b : Int} (h : limB a b = true) : a.toNat ≤ 4 ∧ b.toNat ≤ 4 := by
  unfold limB at h
  simp only [decide_eq_true_eq] at h
  omega
theorem bpF_few (a b : Int) : (bpF a b).length ≤ 1000 := by
  unfold bpF
  split
  · rename_i h
    have := (bp_row (limB_le h).1 (limB_le h).2).2.1
    omega
  · simp
theorem bpF_cnt (a b : Int) : cntLL (bpF a b) ≤ 2000 := by
  unfold bpF
  split
  · rename_i h
    have := (bp_row (limB_le h).1 (limB_le h).2).2.2.1
    omega
  · simp [cntLL]
theorem bpF_short (a b : Int) : ∀ X ∈ bpF a b, X.length ≤ 4611686018427387904 := by
  intro X hX
  unfold bpF at hX
  split at hX
  · rename_i h
    have := ((bp_row (limB_le h).1 (limB_le h).2).2.2.2.2 X hX).2
    omega
  · simp at hX
end Go.Proofs.Ytcjnmconehfbgaa
namespace Go.Proofs.Ytcjnmconehfbgaa
open Go.RowKit NP
set_option maxRecDepth 8000
set_option linter.unusedVariables false
set_option linter.unusedSimpArgs false
theorem validBox_any (a b : Int) (w : World) :
    Calls Try.prog 55 #[.int .i64 a, .int .i64 b] w fun e w' => e = .returned (.bool (limB a b)) ∧ w = w' := by
  by_cases ha : 0 ≤ a ∧ a ≤ 4
  · by_cases hb : 0 ≤ b ∧ b ≤ 4
    · have HR : Hid (limB a b = true) := Lib.hid (decide_eq_true ⟨ha.1, ha.2, hb.1, hb.2⟩)
      go_enter Try.func55, Try.ntmps55
      go_wp2_with (first
        | (go_at_call 47; (with_reducible refine (inRange_yes a _ _ _ ha.1 ha.2).mono ?_); rintro e w' ⟨rfl, rfl⟩)
        | (go_at_call 47; (with_reducible refine (inRange_yes b _ _ _ hb.1 hb.2).mono ?_); rintro e w' ⟨rfl, rfl⟩))
      go_ret
      exact ⟨ret_bool HR.out.symm, rfl⟩
    · have HR : Hid (limB a b = false) := Lib.hid (decide_eq_false (fun h => hb h.2.2))
      have hb' : b < 0 ∨ 4 < b := by omega
      go_enter Try.func55, Try.ntmps55
      go_wp2_with (first
        | (go_at_call 47; (with_reducible refine (inRange_yes a _ _ _ ha.1 ha.2).mono ?_); rintro e w' ⟨rfl, rfl⟩)
        | (go_at_call 47; (with_reducible refine (inRange_no b _ _ _ hb').mono ?_); rintro e w' ⟨rfl, rfl⟩))
      go_ret
      exact ⟨ret_bool HR.out.symm, rfl⟩
  · have HR : Hid (limB a b = false) := Lib.hid (decide_eq_false (fun h => ha ⟨h.1, h.2.1⟩))
    have ha' : a < 0 ∨ 4 < a := by omega
    go_enter Try.func55, Try.ntmps55
    go_wp2_with (go_at_call 47; refine (inRange_no a _ _ _ ha').mono ?_; rintro e w' ⟨rfl, rfl⟩)
    go_ret
    exact ⟨ret_bool HR.out.symm, rfl⟩
end Go.Proofs.Ytcjnmconehfbgaa
namespace Go.Proofs.Ytcjnmconehfbgaa
open Go.RowKit NP
set_option maxRecDepth 8000
set_option linter.unusedVariables false
set_option linter.unusedSimpArgs false
theorem limB_nat {a b : Int} (h : limB a b = true) : ∃ m n : Nat, a = (m : Int) ∧ b = (n : Int) ∧ m ≤ 4 ∧ n ≤ 4 := by
  unfold limB at h
  simp only [decide_eq_true_eq] at h
  exact ⟨a.toNat, b.toNat, by omega, by omega, by omega, by omega⟩
theorem brF_yes {m n : Nat} (h : limB m n = true) : brF m n = gbox m n := by simp [brF, h]
theorem brF_no {a b : Int} (h : limB a b = false) : brF a b = [] := by simp [brF, h]
set_option maxHeartbeats 1000000 in
theorem iBoxRow_any (a b : Int) (w : World) :
    Calls Try.prog 27 #[.int .i64 a, .int .i64 b] w fun e w' => ∃ a' c', e = .returned (.slice a' (brF a b).length c') ∧ Own w' w.heap.size w'.heap.size 3 (.slice a' (brF a b).length c') (ints (brF a b)) ∧ Below w.heap.size w w' := by
  have hb0 : Below w.heap.size w (w.alloc (.cells #[.int .i64 a, .int .i64 b] 61)) := (Below.refl _ _).alloc (Nat.le_refl _) _
  have hbx := Blk.new w 61 #[.int .i64 a, .int .i64 b]
  obtain ⟨w1, hw1⟩ : ∃ w1, w1 = w.alloc (.cells #[.int .i64 a, .int .i64 b] 61) := ⟨_, rfl⟩
  rw [← hw1] at hb0 hbx
  have hz1 : w1.heap.size = w.heap.size + 1 := by rw [hw1, World.size_alloc]
  have HW1 := Lib.hid hw1
  clear hw1
  cases h : limB a b with
  | false =>
    rw [brF_no h]
    go_enter Try.func27, Try.ntmps27
    go_wp2_with (go_at_call 57; refine (isInLimits_any a b _).mono ?_; rintro e wv ⟨rfl, hbv⟩; rw [← HW1.out] at hbv; rw [h])
    go_ret
    exact ⟨none, 0, rfl, Own.nil _ _ _, hb0.trans (hbv.mono hb0.size)⟩
  | true =>
    obtain ⟨i0, hi, hz00, hz01, hz02⟩ := T_int'
    obtain ⟨m, n, rfl, rfl, hm, hn⟩ := limB_nat h
    rw [brF_yes h, rowB_gbox hm hn]
    obtain ⟨N, hN⟩ : ∃ N, m * n + 1 = N := ⟨_, rfl⟩
    have hN17 : N ≤ 17 := by
      have := Nat.mul_le_mul hm hn
      omega
    have HP := Lib.hid (fun w => partsBySum_any m n hm hn w)
    rw [hN] at HP
    have HRW : Hid (rowB m n = (List.range N).map fun s => ((LB m n s).length : Int)) := Lib.hid (by unfold rowB; rw [hN])
    have HLE : Hid (∀ k, k < N → (LB m n k).length ≤ 1000) := Lib.hid (fun k hk => Nat.le_trans (List.length_filter_le _ _) (allQ_len (by omega)))
    clear hN
    go_enter Try.func27, Try.ntmps27
    go_wp2_with (go_at_call 57; refine (isInLimits_any m n _).mono ?_; rintro e wv ⟨rfl, hbv⟩; rw [← HW1.out] at hbv; rw [h]; have hbxv := hbx.below hbv hbx.lt; have c0 := hbxv.cell 0; have c1 := hbxv.cell 1; simp only [List.getElem?_toArray, List.getElem?_cons_zero, List.getElem?_cons_succ] at c0 c1)
    refine (HP.out wv).mono ?_
    rintro e w2 ⟨outs, vss, rfl, hrow, hbs, hb2⟩
    have hbw2 : Below w.heap.size w w2 := (hb0.trans (hbv.mono hb0.size)).trans (hb2.mono (by have := hbv.size; omega))
    have hzv := hbv.size
    have hz2 := hb2.size
    have hgv : wv.heap.size + 1 < w2.heap.size := hrow.lt
    clear hb0 hbx hbv hbxv c0 c1 hb2
    have hO := Own.nil w2 w2.heap.size 3
    go_wp2_with fail
    go_loopw [6, 18] (fun v ii wr => ∃ k : Nat, ii = .int .i64 (k : Int) ∧ k ≤ N ∧ Own wr w2.heap.size wr.heap.size 3 v (ints ((List.range k).map fun s => ((LB m n s).length : Int))) ∧ Below w2.heap.size w2 wr) (fun _ ii _ => N - (intOf ii).toNat)
    case atStart => exact ⟨0, rfl, Nat.zero_le _, hO, Below.refl _ _⟩
    case round =>
      obtain ⟨k, rfl, hk, ho, hbr⟩ := hrel
      by_cases hlt : k < N
      · have hlt' : (k : Int) < (N : Int) := by omega
        have hko : k < outs.length := by rw [hbs.lenO]; exact hlt
        have hkv : k < vss.length := by rw [hbs.lenV]; exact hlt
        obtain ⟨hou, hlv⟩ := hbs.rows k outs[k] vss[k] (List.getElem?_eq_getElem hko) (List.getElem?_eq_getElem hkv)
        obtain ⟨a3, c3, hu⟩ := hou.form
        rw [hlv] at hu
        have hll := HLE.out k hlt
        obtain ⟨l, hl⟩ : ∃ l, (LB m n k).length = l := ⟨_, rfl⟩
        have HS : Hid ((List.range (k + 1)).map (fun s => ((LB m n s).length : Int)) = (List.range k).map (fun s => ((LB m n s).length : Int)) ++ [(l : Int)]) := Lib.hid (by rw [List.range_succ, List.map_append, ← hl]; rfl)
        rw [hl] at hu hll
        have hcu : wr.cell? ⟨wv.heap.size + 1, k, none⟩ = some (.slice a3 l c3) := by
          rw [← hu]
          have h1 := (hrow.below hbr hgv).cell k
          rw [h1, List.getElem?_toArray, List.getElem?_eq_getElem hko]
        obtain ⟨vs, hvs⟩ : ∃ vs, vs = ints ((List.range k).map fun s => ((LB m n s).length : Int)) := ⟨_, rfl⟩
        have hvl : vs.length ≤ 17 := by rw [hvs, List.length_map, List.length_map, List.length_range]; omega
        rw [← hvs] at ho
        have HO := Lib.hid ho
        have HVS := Lib.hid hvs
        have hzr := hbr.size
        clear ho hou hlv hu hl hko hkv hvs
        go_wp2_with (at_builtin; refine wpList_append_o _ rfl (.tmp 22) (.tmp 25) 22 rfl w2.heap.size wr.heap.size 3 i0 (.int .i64 0) 8 Try.underlying22 hi hz00 hz01 hz02 rfl _ vs rfl (HO.out.alloc _) (wr.heap.size + 1) (some ⟨wr.heap.size, 0, none⟩) 1 1 [.int .i64 (l : Int)] rfl (Rd.one _ _ _) rfl (by simp; rfl) (by unfold maxLen; omega) (by omega) (by simp; omega) ?_; intro v' w3 ho3 hg3 hat3)
        go_roundw
        case rel =>
          refine ⟨k + 1, by go_num, by omega, ?_, ?_⟩
          · rw [HS.out]
            show Own w3 w2.heap.size w3.heap.size 3 v' (List.map (Value.int .i64) (_ ++ [(l : Int)]))
            rw [List.map_append, show List.map (Value.int .i64) ((List.range k).map fun s => ((LB m n s).length : Int)) = vs from HVS.out.symm]
            exact ho3
          · exact (hbr.alloc hzr _).grown hg3 (by simp; omega) (fun g e => by have := HO.out.base g e; omega)
        case measure => simp [intOf] <;> omega
      · obtain rfl : k = N := by omega
        obtain ⟨a4, c4, rfl⟩ := ho.form
        have HO := Lib.hid ho
        clear ho
        go_wp2_with fail
        go_ret
        have h1 := HO.out
        have h2 : (rowB m n).length = (ints ((List.range k).map fun s => ((LB m n s).length : Int))).length := by rw [HRW.out]; simp
        rw [h2, HRW.out]
        exact ⟨a4, c4, rfl, h1.lower (by have := hbw2.size; omega), hbw2.trans (hbr.mono (by have := hbw2.size; omega))⟩
theorem sBoxRow_any (a b : Int) (w : World) :
    Calls Try.prog 26 #[.int .i64 a, .int .i64 b] w fun e w' => ∃ a' c', e = .returned (.slice a' (brF a b).length c') ∧ Own w' w.heap.size w'.heap.size 3 (.slice a' (brF a b).length c') (ints (brF a b)) ∧ Below w.heap.size w w' := by
  cases h : limB a b with
  | false =>
    rw [brF_no h]
    go_enter Try.func26, Try.ntmps26
    go_wp2_with (go_at_call 55; refine (validBox_any a b _).mono ?_; rintro e wv ⟨rfl, rfl⟩; rw [h])
    go_ret
    exact ⟨none, 0, rfl, Own.nil _ _ _, Below.refl _ _⟩
  | true =>
    obtain ⟨m, n, rfl, rfl, hm, hn⟩ := limB_nat h
    rw [brF_yes h]
    have HG := Lib.hid (boxRow_any (m + n) m n w (Nat.le_refl _) hm hn)
    go_enter Try.func26, Try.ntmps26
    go_wp2_with (go_at_call 55; refine (validBox_any m n _).mono ?_; rintro e wv ⟨rfl, rfl⟩; rw [h])
    refine HG.out.mono ?_
    rintro e w' ⟨a', c', rfl, ho, hb⟩
    go_wp2_with fail
    go_ret
    exact ⟨a', c', rfl, ho, hb⟩
end Go.Proofs.Ytcjnmconehfbgaa
namespace Go.Proofs.Ytcjnmconehfbgaa
open Go.RowKit NP
set_option maxRecDepth 8000
set_option linter.unusedVariables false
set_option linter.unusedSimpArgs false
theorem bpF_yes {m n : Nat} (h : limB m n = true) : bpF m n = BPL m n (m * n + 1) := by simp [bpF, h]
theorem bpF_no {a b : Int} (h : limB a b = false) : bpF a b = [] := by simp [bpF, h]
set_option maxHeartbeats 1000000 in
theorem iBoxParts_any (a b : Int) (w : World) :
    Calls Try.prog 32 #[.int .i64 a, .int .i64 b] w fun e w' => ∃ a' c' us, e = .returned (.slice a' (bpF a b).length c') ∧ OwnLL w' w.heap.size w'.heap.size 22 3 (.slice a' (bpF a b).length c') us (bpF a b) ∧ Below w.heap.size w w' := by
  have hb0 : Below w.heap.size w (w.alloc (.cells #[.int .i64 a, .int .i64 b] 61)) := (Below.refl _ _).alloc (Nat.le_refl _) _
  have hbx := Blk.new w 61 #[.int .i64 a, .int .i64 b]
  obtain ⟨w1, hw1⟩ : ∃ w1, w1 = w.alloc (.cells #[.int .i64 a, .int .i64 b] 61) := ⟨_, rfl⟩
  rw [← hw1] at hb0 hbx
  have hz1 : w1.heap.size = w.heap.size + 1 := by rw [hw1, World.size_alloc]
  have HW1 := Lib.hid hw1
  clear hw1
  cases h : limB a b with
  | false =>
    rw [bpF_no h]
    go_enter Try.func32, Try.ntmps32
    go_wp2_with (go_at_call 57; refine (isInLimits_any a b _).mono ?_; rintro e wv ⟨rfl, hbv⟩; rw [← HW1.out] at hbv; rw [h])
    go_ret
    exact ⟨none, 0, [], rfl, OwnLL.nil _ _ _ _, hb0.trans (hbv.mono hb0.size)⟩
  | true =>
    obtain ⟨m, n, rfl, rfl, hm, hn⟩ := limB_nat h
    obtain ⟨hrow0, hlen100, -, hlen1, -⟩ := bp_row hm hn
    rw [bpF_yes h]
    obtain ⟨N, hN⟩ : ∃ N, m * n + 1 = N := ⟨_, rfl⟩
    have hN17 : N ≤ 17 := by
      have := Nat.mul_le_mul hm hn
      omega
    have HP := Lib.hid (fun w => partsBySum_any m n hm hn w)
    rw [hN] at HP hlen1 ⊢
    have HLE : Hid (∀ k, k < N → (LB m n k).length ≤ 1000) := Lib.hid (fun k hk => Nat.le_trans (List.length_filter_le _ _) (allQ_len (by omega)))
    have hN0 : 0 < N := by omega
    have HL1 := Lib.hid hlen1
    clear hN hrow0 hlen100 hlen1
    go_enter Try.func32, Try.ntmps32
    go_wp2_with (go_at_call 57; refine (isInLimits_any m n _).mono ?_; rintro e wv ⟨rfl, hbv⟩; rw [← HW1.out] at hbv; rw [h]; have hbxv := hbx.below hbv hbx.lt; have c0 := hbxv.cell 0; have c1 := hbxv.cell 1; simp only [List.getElem?_toArray, List.getElem?_cons_zero, List.getElem?_cons_succ] at c0 c1)
    refine (HP.out wv).mono ?_
    rintro e w2 ⟨outs, vss, rfl, hrow, hbs, hb2⟩
    have hbw2 : Below w.heap.size w w2 := (hb0.trans (hbv.mono hb0.size)).trans (hb2.mono (by have := hbv.size; omega))
    have hzv := hbv.size
    have hz2 := hb2.size
    have hgv : wv.heap.size + 1 < w2.heap.size := hrow.lt
    clear hb0 hbx hbv hbxv c0 c1 hb2
    have hflen : vss.flatten.length = (BPL m n N).length := hbs.inn.len
    have HCC := Lib.hid (concat_any (wv.heap.size + 1) N outs vss (wv.heap.size + 2) w2 hN17 hN0 hbs.lenO hbs.lenV hrow (fun j u vs hu hv => ⟨(hbs.rows j u vs hu hv).1, by
        rw [(hbs.rows j u vs hu hv).2]
        exact HLE.out j (by rw [← hbs.lenO]; exact (List.getElem?_eq_some_iff.1 hu).1)⟩)
      (fun vs hvs u hu => by
        obtain ⟨j, hj, he⟩ := List.getElem_of_mem (List.mem_flatten.2 ⟨vs, hvs, hu⟩)
        have hjl : j < (BPL m n N).length := by rw [← hflen]; exact hj
        have ho := hbs.inn.inner j _ _ (List.getElem?_eq_getElem hj) (List.getElem?_eq_getElem hjl)
        rw [he] at ho
        obtain ⟨a', c', rfl⟩ := ho.form
        rfl) (by have := HL1.out; rw [hflen]; exact this))
    have HFL := Lib.hid hflen
    clear hflen
    go_wp2_with fail
    refine HCC.out.mono ?_
    rintro e w3 ⟨a3, c3, rfl, ho, hb3⟩
    rw [HFL.out] at ho ⊢
    have HO := Lib.hid ho
    clear ho
    go_wp2_with fail
    go_ret
    have hz3 := hb3.size
    have hzw := hbw2.size
    have hin := (hbs.inn.kb (lo' := wv.heap.size + 2) ⟨hb3.size, fun g _ h2 => hb3.block g h2⟩ (Nat.le_refl _))
    refine ⟨a3, c3, vss.flatten, rfl, ⟨HO.out.lower hzw, hin.len, fun k u L hu hL => ((hin.inner k u L hu hL).more).lower (by omega), fun k u g hu hg e => ?_, hin.apart⟩, hbw2.trans (hb3.mono hzw)⟩
    have hk := (List.getElem?_eq_some_iff.1 hu).1
    have hkl : k < (BPL m n N).length := by rw [← HFL.out]; exact hk
    have h1 := (hin.inner k u _ hu (List.getElem?_eq_getElem hkl)).lt g hg
    have h2 := HO.out.base g e
    omega
end Go.Proofs.Ytcjnmconehfbgaa
namespace Go.Proofs.Ytcjnmconehfbgaa
open Go.RowKit NP
set_option maxRecDepth 8000
set_option linter.unusedVariables false
theorem T_ints : (Try.prog.info? 22).map (fun i => (i.zero, i.size, i.bytes)) = some (some (.slice none 0 0), 1, 24) := by kernel_rfl

theorem slist_zero (a : Option Addr) (c B : Nat) (H : List Int) (most : Int) (w : World) (h : Rd w B a (ints H)) (hB : B ≤ w.heap.size) (hl : H.length ≤ 100) :
    Calls Try.prog 60 #[.slice a H.length c, .int .i64 0, .int .i64 most] w fun e w' => ∃ a' c' vs, e = .returned (.slice a' 1 c') ∧ OwnLL w' w.heap.size w'.heap.size 22 3 (.slice a' 1 c') vs [H] ∧ Below w.heap.size w w' := by
  obtain ⟨i0, hi, hz0, hz1, hz2⟩ := T_int'
  go_enter Try.func60, Try.ntmps60
  go_wp2_with (at_builtin; refine wpList_append_o _ rfl (.tmp 11) (.tmp 12) 22 rfl w.heap.size (w.heap.size + 1) 3 i0 (.int .i64 0) 8 Try.underlying22 hi hz0 hz1 hz2 rfl _ [] rfl (Own.empty w 3) B a H.length c (ints H) rfl (h.alloc hB _) (by simp) (ints_one H) (by simp; unfold maxLen; omega) (by simp; omega) (by simp) ?_; intro v' w1 ho1 hg1 hat1; rw [List.nil_append] at ho1; obtain ⟨a2, c2, rfl⟩ := ho1.form; rw [List.length_map] at ho1 ⊢)
  have hg2 : (w.alloc (.cells #[] 3)).grownBy w1 (some w.heap.size) := hg1
  have hz1' := hg2.size
  simp at hz1'
  have hbl : Below w.heap.size w w1 := below_push (Below.refl _ _) (Nat.le_refl _) hg2 (fun g hg => by cases hg; exact Nat.le_refl _)
  go_ret
  exact ⟨_, _, _, rfl, by have := OwnLL.single (eo := 22) ho1 (by omega); simpa using this, hbl.alloc (by omega) _⟩
end Go.Proofs.Ytcjnmconehfbgaa
namespace Go.Proofs.Ytcjnmconehfbgaa
open Go.RowKit NP
set_option maxRecDepth 8000
set_option linter.unusedVariables false
set_option linter.unusedSimpArgs false
theorem OwnLL.one {w : World} {lo hi : Nat} {eo e : TypeId} {v : Value} {vs : List Value} {LL : List (List Int)} (h : OwnLL w lo hi eo e v vs LL) : ∀ u ∈ vs, u.oneCell' = true := by
  intro u hu
  obtain ⟨k, hk, rfl⟩ := List.getElem_of_mem hu
  have hl : k < LL.length := by rw [← h.len]; exact hk
  obtain ⟨a, c, e⟩ := (h.inner k _ _ (List.getElem?_eq_getElem hk) (List.getElem?_eq_getElem hl)).form
  rw [e]; rfl
theorem upQ_le (f n top j : Nat) : (upQ f n top j).length ≤ (upQ f n top top).length := by
  unfold upQ
  rw [List.take_of_length_le (i := top) (by simp)]
  have h := List.take_append_drop j (List.range top).reverse
  have h2 : (((List.range top).reverse.take j ++ (List.range top).reverse.drop j).flatMap (pieceQ f n)).length = ((List.range top).reverse.flatMap (pieceQ f n)).length := by rw [h]
  rw [List.flatMap_append, List.length_append] at h2
  omega
def cntQ : Bool := (List.range 17).all fun f => (List.range 17).all fun n => (List.range 17).all fun m => decide ((allQ f n m).length ≤ 400)
set_option maxRecDepth 100000 in
theorem cntQ_all : cntQ = true := by decide +kernel
theorem allQ_le {f n m : Nat} (hf : f ≤ 16) (hn : n ≤ 16) (hm : m ≤ 16) : (allQ f n m).length ≤ 400 := by
  have h := cntQ_all
  unfold cntQ at h
  have h1 := List.all_eq_true.1 h f (by simp; omega)
  have h2 := List.all_eq_true.1 h1 n (by simp; omega)
  have h3 := List.all_eq_true.1 h2 m (by simp; omega)
  simpa using h3
theorem up_next (H : List Int) (f n top q : Nat) (h1 : 1 ≤ q) (hq : q ≤ top) : (upQ f n top (top - q)).map (H ++ ·) ++ (allQ f (n - q) q).map ((H ++ [(q : Int)]) ++ ·) = (upQ f n top (top - (q - 1))).map (H ++ ·) := by
  rw [show top - (q - 1) = (top - q) + 1 from by omega, upQ_succ _ _ _ _ (by omega), List.map_append, show top - 1 - (top - q) = q - 1 from by omega, map_piece, show q - 1 + 1 = q from by omega]
theorem T_ints' : ∃ i, Try.prog.info? 22 = some i ∧ i.zero = some (.slice none 0 0) ∧ i.size = 1 ∧ i.bytes = 24 := info_parts T_ints

def ListsTo (f : Nat) : Prop := ∀ (n : Nat) (a : Option Addr) (c B : Nat) (H : List Int) (most : Nat) (w : World), n ≤ f → H.length + f ≤ 60 → most ≤ 16 → Rd w B a (ints H) → B ≤ w.heap.size →
    Calls Try.prog 60 #[.slice a H.length c, .int .i64 (n : Int), .int .i64 (most : Int)] w fun e w' => ∃ a' c' vs, e = .returned (.slice a' (allQ f n most).length c') ∧ OwnLL w' w.heap.size w'.heap.size 22 3 (.slice a' (allQ f n most).length c') vs ((allQ f n most).map (H ++ ·)) ∧ Below w.heap.size w w'
theorem slist_base (f n : Nat) (hn : n = 0) (a : Option Addr) (c B : Nat) (H : List Int) (most : Nat) (w : World) (hl : H.length ≤ 60) (h : Rd w B a (ints H)) (hB : B ≤ w.heap.size) :
    Calls Try.prog 60 #[.slice a H.length c, .int .i64 (n : Int), .int .i64 (most : Int)] w fun e w' => ∃ a' c' vs, e = .returned (.slice a' (allQ f n most).length c') ∧ OwnLL w' w.heap.size w'.heap.size 22 3 (.slice a' (allQ f n most).length c') vs ((allQ f n most).map (H ++ ·)) ∧ Below w.heap.size w w' := by
  subst hn
  rw [allQ_zero]
  refine (slist_zero a c B H most w h hB (by omega)).mono ?_
  rintro e w' ⟨a', c', vs, rfl, ho, hb⟩
  exact ⟨a', c', vs, rfl, by simpa using ho, hb⟩
set_option maxHeartbeats 4000000 in
theorem slist_step (f : Nat) (hf : f < 16) (ih : ListsTo f) : ListsTo (f + 1) := by
  intro n a c B H most w hn hH hm hrd0 hB
  by_cases h0 : n = 0
  · exact slist_base (f + 1) n h0 a c B H most w (by omega) hrd0 hB
  obtain ⟨i0, hi, hz0, hz1, hz2⟩ := T_int'
  obtain ⟨i1, hj, hy0, hy1, hy2⟩ := T_ints'
  obtain ⟨top, htop⟩ : ∃ top, top = min n most := ⟨_, rfl⟩
  have htn : top ≤ n := by rw [htop]; exact Nat.min_le_left _ _
  have htm : top ≤ most := by rw [htop]; exact Nat.min_le_right _ _
  have hor : top = n ∨ top = most := by rw [htop]; rcases Nat.le_total n most with h | h <;> simp [h]
  have h1n : 1 ≤ n := by omega
  rw [allQ_up f n most h0, ← htop]
  have HALL : Hid ((upQ f n top top).length ≤ 400) := Lib.hid (by have := allQ_le (f := f + 1) (n := n) (m := most) (by omega) (by omega) (by omega); rw [allQ_up f n most h0, ← htop] at this; exact this)
  have hn0 : ((n : Int) == 0) = false := beq_eq_false_iff_ne.2 (by omega)
  have hE := OwnLL.empty w 22 3
  have hbE : Below w.heap.size w (w.alloc (.cells #[] 22)) := (Below.refl _ _).alloc (Nat.le_refl _) _
  have HTOP := Lib.hid htop
  clear htop
  by_cases hlt : most < n
  · have hlt' : (most : Int) < (n : Int) := by omega
    have htq : top = most := by rw [HTOP.out]; omega
    clear hor
    subst htq
    go_enter Try.func60, Try.ntmps60
    go_wp2_with fail
    clear hlt hlt'
    go_loopw [7, 8] (fun v kk wr => ∃ (q : Nat) (a' : Option Addr) (c' : Nat) (vs : List Value), kk = .int .i64 (q : Int) ∧ q ≤ top ∧ v = .slice a' (upQ f n top (top - q)).length c' ∧ Below w.heap.size w wr ∧ OwnLL wr w.heap.size wr.heap.size 22 3 (.slice a' (upQ f n top (top - q)).length c') vs ((upQ f n top (top - q)).map (H ++ ·))) (fun _ kk _ => (intOf kk).toNat)
    case atStart => exact ⟨top, _, _, _, rfl, Nat.le_refl _, by rw [Nat.sub_self, upQ_zero]; rfl, hbE, by rw [Nat.sub_self, upQ_zero]; exact hE.more⟩
    case round =>
      obtain ⟨q, a', c', vs, rfl, hq, rfl, hbel, hout⟩ := hrel
      have HOUT := Lib.hid hout
      have HV : Hid (vs.length = (upQ f n top (top - q)).length) := Lib.hid (by rw [hout.len, List.length_map])
      clear hout hE hbE
      by_cases hq0 : q = 0
      · subst hq0
        go_wp2_with fail
        go_ret
        exact ⟨a', c', vs, rfl, HOUT.out, hbel⟩
      · have hq1 : 1 ≤ q := by omega
        have hq1' : (1 : Int) ≤ (q : Int) := by omega
        have hrd := hrd0.below (hbel.mono hB)
        have hupn := upQ_le f n top (top - q + 1)
        rw [upQ_succ f n top (top - q) (by omega), List.length_append, show top - 1 - (top - q) = q - 1 from by omega] at hupn
        have hpl : (pieceQ f n (q - 1)).length = (allQ f (n - q) q).length := by unfold pieceQ; rw [List.length_map, show q - 1 + 1 = q from by omega]
        rw [hpl] at hupn
        have HUP : Hid ((upQ f n top (top - q)).length + (allQ f (n - q) q).length ≤ 400) := Lib.hid (Nat.le_trans hupn HALL.out)
        clear hupn hpl
        obtain ⟨G, hG⟩ : ∃ G, G = H ++ [(q : Int)] := ⟨_, rfl⟩
        have HGL : Hid (G.length + f ≤ 60) := Lib.hid (by rw [hG]; simp; omega)
        have HG := Lib.hid hG
        clear hG hq0
        have hcast : ((n - q : Nat) : Int) = (n : Int) - (q : Int) := by omega
        go_wp2_with (first
          | (at_builtin; refine wpList_append_o _ rfl (.tmp 23) (.tmp 34) 36 rfl w.heap.size wr.heap.size 22 i1 (.slice none 0 0) 24 Try.underlying36 hj hy0 hy1 hy2 rfl _ vs rfl (HOUT.out.outer.below hb35) w5.heap.size a5 (allQ f (n - q) q).length c5 vsx rfl HX.out.outer.rd (by rw [HX.out.len, List.length_map]) HX.out.one (by rw [HV.out]; unfold maxLen; have := HUP.out; omega) (by rw [HV.out]; have := HUP.out; omega) (by have := hbel.size; have := hb35.size; omega) ?_; intro v' w6 ho6 hg6 hat6; have hall := (HOUT.out.below hb35).appendAll HX.out hb4.size (Nat.le_trans hbel.size hb4.size) ho6 hg6 hat6; have hb6 : Below w.heap.size w w6 := (hbel.trans (hb35.mono hbel.size)).grown hg6 (by have := hbel.size; have := hb35.size; omega) HOUT.out.outer.base; clear ho6 hg6 hat6; rw [HG.out, up_next H f n _ q hq1 hq] at hall; obtain ⟨a6, c6, rfl⟩ := hall.form; rw [List.length_map] at hall ⊢)
          | (go_at_call 60; have ihh := ih (n - q) a4 c4 _ G q _ (by omega) HGL.out (by omega) HO4.out.rd (Nat.le_refl _); rw [hcast] at ihh; refine ihh.mono ?_; rintro e w5 ⟨a5, c5, vsx, rfl, hx5, hb5⟩; clear ihh; have hb35 : Below wr.heap.size wr w5 := hb4.trans (hb5.mono hb4.size); have HX := Lib.hid hx5; clear hx5)
          | (at_builtin; refine wpList_append_o _ rfl (.tmp 26) (.tmp 28) 22 rfl wr.heap.size w3.heap.size 3 i0 (.int .i64 0) 8 Try.underlying22 hi hz0 hz1 hz2 rfl _ (ints H) rfl (HO3.out.alloc _) (w3.heap.size + 1) (some ⟨w3.heap.size, 0, none⟩) 1 1 [.int .i64 (q : Int)] rfl (Rd.one w3 _ _) rfl (by simp; rfl) (by simp; unfold maxLen; omega) (by simp; omega) (by rw [World.size_alloc]; have := hb3.size; omega) ?_; intro v' w4 ho4 hg4 hat4; clear hat4; have hb4 : Below wr.heap.size wr w4 := below_push hb3 (Nat.le_refl _) hg4 HO3.out.base; clear hg4; rw [show ints H ++ [Value.int .i64 (q : Int)] = ints G from by rw [HG.out]; simp [ints]] at ho4; obtain ⟨a4, c4, rfl⟩ := ho4.form; rw [List.length_map] at ho4 ⊢; have HO4 := Lib.hid ho4; clear ho4)
          | (at_builtin; refine wpList_append_o _ rfl (.tmp 24) (.tmp 25) 22 rfl wr.heap.size (wr.heap.size + 1) 3 i0 (.int .i64 0) 8 Try.underlying22 hi hz0 hz1 hz2 rfl _ [] rfl (Own.empty wr 3) B a H.length c (ints H) rfl (hrd.alloc (Nat.le_trans hB hbel.size) _) (by simp) (ints_one H) (by simp; unfold maxLen; omega) (by simp; omega) (by simp) ?_; intro v' w3 ho3 hg3 hat3; rw [List.nil_append] at ho3; clear hat3; obtain ⟨a3, c3, rfl⟩ := ho3.form; rw [List.length_map] at ho3 ⊢; have hb3 : Below wr.heap.size wr w3 := below_push (Below.refl _ _) (Nat.le_refl _) hg3 (fun g hg => by cases hg; exact Nat.le_refl _); clear hg3; have HO3 := Lib.hid ho3; clear ho3))
        go_roundw
        case rel =>
          exact ⟨q - 1, a6, c6, _, by rw [show ((q - 1 : Nat) : Int) = (q : Int) - 1 from by omega], by omega, rfl, hb6, hall⟩
        case measure => simp [intOf]; omega

  · have hlt' : ¬ (most : Int) < (n : Int) := by omega
    have htq : n = top := by rw [HTOP.out]; omega
    clear hor
    subst htq
    go_enter Try.func60, Try.ntmps60
    go_wp2_with fail
    clear hlt hlt'
    go_loopw [7, 8] (fun v kk wr => ∃ (q : Nat) (a' : Option Addr) (c' : Nat) (vs : List Value), kk = .int .i64 (q : Int) ∧ q ≤ n ∧ v = .slice a' (upQ f n n (n - q)).length c' ∧ Below w.heap.size w wr ∧ OwnLL wr w.heap.size wr.heap.size 22 3 (.slice a' (upQ f n n (n - q)).length c') vs ((upQ f n n (n - q)).map (H ++ ·))) (fun _ kk _ => (intOf kk).toNat)
    case atStart => exact ⟨n, _, _, _, rfl, Nat.le_refl _, by rw [Nat.sub_self, upQ_zero]; rfl, hbE, by rw [Nat.sub_self, upQ_zero]; exact hE.more⟩
    case round =>
      obtain ⟨q, a', c', vs, rfl, hq, rfl, hbel, hout⟩ := hrel
      have HOUT := Lib.hid hout
      have HV : Hid (vs.length = (upQ f n n (n - q)).length) := Lib.hid (by rw [hout.len, List.length_map])
      clear hout hE hbE
      by_cases hq0 : q = 0
      · subst hq0
        go_wp2_with fail
        go_ret
        exact ⟨a', c', vs, rfl, HOUT.out, hbel⟩
      · have hq1 : 1 ≤ q := by omega
        have hq1' : (1 : Int) ≤ (q : Int) := by omega
        have hrd := hrd0.below (hbel.mono hB)
        have hupn := upQ_le f n n (n - q + 1)
        rw [upQ_succ f n n (n - q) (by omega), List.length_append, show n - 1 - (n - q) = q - 1 from by omega] at hupn
        have hpl : (pieceQ f n (q - 1)).length = (allQ f (n - q) q).length := by unfold pieceQ; rw [List.length_map, show q - 1 + 1 = q from by omega]
        rw [hpl] at hupn
        have HUP : Hid ((upQ f n n (n - q)).length + (allQ f (n - q) q).length ≤ 400) := Lib.hid (Nat.le_trans hupn HALL.out)
        clear hupn hpl
        obtain ⟨G, hG⟩ : ∃ G, G = H ++ [(q : Int)] := ⟨_, rfl⟩
        have HGL : Hid (G.length + f ≤ 60) := Lib.hid (by rw [hG]; simp; omega)
        have HG := Lib.hid hG
        clear hG hq0
        have hcast : ((n - q : Nat) : Int) = (n : Int) - (q : Int) := by omega
        go_wp2_with (first
          | (at_builtin; refine wpList_append_o _ rfl (.tmp 23) (.tmp 34) 36 rfl w.heap.size wr.heap.size 22 i1 (.slice none 0 0) 24 Try.underlying36 hj hy0 hy1 hy2 rfl _ vs rfl (HOUT.out.outer.below hb35) w5.heap.size a5 (allQ f (n - q) q).length c5 vsx rfl HX.out.outer.rd (by rw [HX.out.len, List.length_map]) HX.out.one (by rw [HV.out]; unfold maxLen; have := HUP.out; omega) (by rw [HV.out]; have := HUP.out; omega) (by have := hbel.size; have := hb35.size; omega) ?_; intro v' w6 ho6 hg6 hat6; have hall := (HOUT.out.below hb35).appendAll HX.out hb4.size (Nat.le_trans hbel.size hb4.size) ho6 hg6 hat6; have hb6 : Below w.heap.size w w6 := (hbel.trans (hb35.mono hbel.size)).grown hg6 (by have := hbel.size; have := hb35.size; omega) HOUT.out.outer.base; clear ho6 hg6 hat6; rw [HG.out, up_next H f n _ q hq1 hq] at hall; obtain ⟨a6, c6, rfl⟩ := hall.form; rw [List.length_map] at hall ⊢)
          | (go_at_call 60; have ihh := ih (n - q) a4 c4 _ G q _ (by omega) HGL.out (by omega) HO4.out.rd (Nat.le_refl _); rw [hcast] at ihh; refine ihh.mono ?_; rintro e w5 ⟨a5, c5, vsx, rfl, hx5, hb5⟩; clear ihh; have hb35 : Below wr.heap.size wr w5 := hb4.trans (hb5.mono hb4.size); have HX := Lib.hid hx5; clear hx5)
          | (at_builtin; refine wpList_append_o _ rfl (.tmp 26) (.tmp 28) 22 rfl wr.heap.size w3.heap.size 3 i0 (.int .i64 0) 8 Try.underlying22 hi hz0 hz1 hz2 rfl _ (ints H) rfl (HO3.out.alloc _) (w3.heap.size + 1) (some ⟨w3.heap.size, 0, none⟩) 1 1 [.int .i64 (q : Int)] rfl (Rd.one w3 _ _) rfl (by simp; rfl) (by simp; unfold maxLen; omega) (by simp; omega) (by rw [World.size_alloc]; have := hb3.size; omega) ?_; intro v' w4 ho4 hg4 hat4; clear hat4; have hb4 : Below wr.heap.size wr w4 := below_push hb3 (Nat.le_refl _) hg4 HO3.out.base; clear hg4; rw [show ints H ++ [Value.int .i64 (q : Int)] = ints G from by rw [HG.out]; simp [ints]] at ho4; obtain ⟨a4, c4, rfl⟩ := ho4.form; rw [List.length_map] at ho4 ⊢; have HO4 := Lib.hid ho4; clear ho4)
          | (at_builtin; refine wpList_append_o _ rfl (.tmp 24) (.tmp 25) 22 rfl wr.heap.size (wr.heap.size + 1) 3 i0 (.int .i64 0) 8 Try.underlying22 hi hz0 hz1 hz2 rfl _ [] rfl (Own.empty wr 3) B a H.length c (ints H) rfl (hrd.alloc (Nat.le_trans hB hbel.size) _) (by simp) (ints_one H) (by simp; unfold maxLen; omega) (by simp; omega) (by simp) ?_; intro v' w3 ho3 hg3 hat3; rw [List.nil_append] at ho3; clear hat3; obtain ⟨a3, c3, rfl⟩ := ho3.form; rw [List.length_map] at ho3 ⊢; have hb3 : Below wr.heap.size wr w3 := below_push (Below.refl _ _) (Nat.le_refl _) hg3 (fun g hg => by cases hg; exact Nat.le_refl _); clear hg3; have HO3 := Lib.hid ho3; clear ho3))
        go_roundw
        case rel =>
          exact ⟨q - 1, a6, c6, _, by rw [show ((q - 1 : Nat) : Int) = (q : Int) - 1 from by omega], by omega, rfl, hb6, hall⟩
        case measure => simp [intOf]; omega

theorem slist_lists : ∀ f : Nat, f ≤ 16 → ListsTo f := by
  intro f
  induction f with
  | zero =>
    intro _ n a c B H most w hn hH hm hrd hB
    exact slist_base 0 n (by omega) a c B H most w (by omega) hrd hB
  | succ f ih => intro hf; exact slist_step f (by omega) (ih (by omega))
end Go.Proofs.Ytcjnmconehfbgaa
namespace Go.Proofs.Ytcjnmconehfbgaa
namespace NP
def sqRT (L : List Int) (d : Int) (k : Nat) : List Int := ((List.range k).filter fun i => decide (d < L.getD i 0)).map fun i => L.getD i 0 - d
theorem sqRT_succ (L : List Int) (d : Int) (k : Nat) : sqRT L d (k + 1) = sqRT L d k ++ if d < L.getD k 0 then [L.getD k 0 - d] else [] := by
  unfold sqRT
  rw [List.range_succ, List.filter_append, List.map_append]
  obtain ⟨f, hf⟩ : ∃ f : Nat → Int, ∀ i, L.getD i 0 = f i := ⟨_, fun _ => rfl⟩
  simp only [hf]
  congr 1
  by_cases h : d < f k <;> simp [h]
theorem sqRT_len (L : List Int) (d : Int) (k : Nat) : (sqRT L d k).length ≤ k := by
  unfold sqRT
  rw [List.length_map]
  exact Nat.le_trans (List.length_filter_le _ _) (by simp)
def sqR (L : List Int) : List Int := sqRT L (durS L) (durS L)
def sqB (L : List Int) : List Int := L.drop (durS L)
def sqRF (L : List Int) : List Int := if valid L then sqR L else []
def sqBF (L : List Int) : List Int := if valid L then sqB L else []
def sqD (L : List Int) : Int := if valid L then (durS L : Int) else 0
theorem sqRF_yes {L : List Int} (h : valid L = true) : sqRF L = sqR L := by simp [sqRF, h]
theorem sqRF_no {L : List Int} (h : valid L = false) : sqRF L = [] := by simp [sqRF, h]
theorem sqBF_yes {L : List Int} (h : valid L = true) : sqBF L = sqB L := by simp [sqBF, h]
theorem sqBF_no {L : List Int} (h : valid L = false) : sqBF L = [] := by simp [sqBF, h]
theorem sqD_yes {L : List Int} (h : valid L = true) : sqD L = (durS L : Int) := by simp [sqD, h]
theorem sqD_no {L : List Int} (h : valid L = false) : sqD L = 0 := by simp [sqD, h]
/-- what stands in the rows of the square, less the square -/
def sqArr (L : List Int) : List Int := (List.range 16).map fun j => if j < durS L then L.getD j 0 - (durS L : Int) else 0
def sqOk (d : Int) (R B : List Int) : Bool := decide (0 ≤ d) && decide (d ≤ 16) && valid R && valid B && decide ((R.length : Int) ≤ d) && decide (B.getD 0 0 ≤ d) && decide (d * d + sumL R + sumL B ≤ 16)
def sqPut (d : Int) (R B : List Int) : List Int := adp (List.replicate d.toNat d) R ++ B
def sqPutF (d : Int) (R B : List Int) : List Int := if sqOk d R B then sqPut d R B else []
theorem sqPutF_yes {d : Int} {R B : List Int} (h : sqOk d R B = true) : sqPutF d R B = sqPut d R B := by simp [sqPutF, h]
theorem sqPutF_no {d : Int} {R B : List Int} (h : sqOk d R B = false) : sqPutF d R B = [] := by simp [sqPutF, h]
theorem sqOk_iff (d : Int) (R B : List Int) : sqOk d R B = true ↔ 0 ≤ d ∧ d ≤ 16 ∧ valid R = true ∧ valid B = true ∧ (R.length : Int) ≤ d ∧ B.getD 0 0 ≤ d ∧ d * d + sumL R + sumL B ≤ 16 := by
  simp [sqOk, and_assoc]

def sqTab (N : List Nat) : Bool :=
  let L := N.map Int.ofNat
  valid (sqR L) && valid (sqB L) && decide (pad (sqR L) = sqArr L) && decide (sqR (conj L) = conj (sqB L)) && decide (sqB (conj L) = conj (sqR L)) && sqOk (durS L) (sqR L) (sqB L) && decide (sqPut (durS L) (sqR L) (sqB L) = L)
set_option maxRecDepth 100000 in
theorem sqTab_all : all16.all sqTab = true := by decide +kernel
theorem sq_facts {L : List Int} (h : valid L = true) : valid (sqR L) = true ∧ valid (sqB L) = true ∧ pad (sqR L) = sqArr L ∧ sqR (conj L) = conj (sqB L) ∧ sqB (conj L) = conj (sqR L) ∧ sqOk (durS L) (sqR L) (sqB L) = true ∧ sqPut (durS L) (sqR L) (sqB L) = L := by
  obtain ⟨N, hN, rfl⟩ := of_all sqTab_all h
  simp only [sqTab, Bool.and_eq_true, decide_eq_true_eq] at hN
  obtain ⟨⟨⟨⟨⟨⟨h1, h2⟩, h3⟩, h4⟩, h5⟩, h6⟩, h7⟩ := hN
  exact ⟨h1, h2, h3, h4, h5, h6, h7⟩
theorem sqRF_len (L : List Int) : (sqRF L).length ≤ 16 := by
  unfold sqRF
  split
  · rename_i h; exact (valid_bd (sq_facts h).1).2.2.2
  · simp
theorem sqBF_len (L : List Int) : (sqBF L).length ≤ 16 := by
  unfold sqBF
  split
  · rename_i h; exact (valid_bd (sq_facts h).2.1).2.2.2
  · simp

/-- the square itself -/
def sqs (n : Nat) : List Int := List.replicate n (n : Int)
theorem sqs_valid {n : Nat} (h : n ≤ 4) : valid (sqs n) = true := by
  match n, h with
  | 0, _ => rfl
  | 1, _ => rfl
  | 2, _ => rfl
  | 3, _ => rfl
  | 4, _ => rfl
theorem sumL_rep (n : Nat) (x : Int) : sumL (List.replicate n x) = (n : Int) * x := by
  induction n with
  | zero => simp [sumL]
  | succ n ih =>
    rw [List.replicate_succ]
    show x + sumL _ = _
    rw [ih, Int.natCast_add, Int.add_mul]
    simp
    omega
theorem sqs_sum (n : Nat) : sumL (sqs n) = (n : Int) * (n : Int) := sumL_rep n n
theorem sqs_getD (n i : Nat) : (sqs n).getD i 0 = if i < n then (n : Int) else 0 := by
  unfold sqs
  rw [List.getD_eq_getElem?_getD, List.getElem?_replicate]
  split <;> rfl
theorem sq4 {n : Nat} {x : Int} (hx : 0 ≤ x) (h : (n : Int) * (n : Int) + x ≤ 16) : n ≤ 4 := by
  rcases Nat.lt_or_ge 4 n with h1 | h1
  · have h2 : (5 : Int) * 5 ≤ (n : Int) * (n : Int) := Int.mul_le_mul (by omega) (by omega) (by omega) (by omega)
    omega
  · exact h1
theorem sq_put {n : Nat} {R B : List Int} (h : sqOk n R B = true) :
    two (sqs n) R = true ∧ two (adp (sqs n) R) B = true ∧ sqPut n R B = adp (sqs n) R ++ B ∧ mono (adp (sqs n) R ++ B) ∧ (adp (sqs n) R).length = n ∧ (∀ x ∈ adp (sqs n) R ++ B, 1 ≤ x) ∧ valid (sqPut n R B) = true := by
  obtain ⟨h0, h16, hvR, hvB, hRl, hB0, hs⟩ := (sqOk_iff _ _ _).1 h
  have bR := valid_bd hvR
  have bB := valid_bd hvB
  have h4 : n ≤ 4 := sq4 (x := sumL R + sumL B) (by omega) (by omega)
  have hv := sqs_valid h4
  have hss := sqs_sum n
  have t1 : two (sqs n) R = true := by simp [two, hv, hvR, hss]; omega
  have hvP := valid_adp t1
  have hsP := adp_sum (sqs n) R
  have t2 : two (adp (sqs n) R) B = true := by simp [two, hvP, hvB, hsP, hss]; omega
  have hlP : (adp (sqs n) R).length = n := by rw [adp_len]; simp [sqs]; omega
  have hge : ∀ x ∈ adp (sqs n) R, (n : Int) ≤ x := fun x hx => by
    obtain ⟨i, hi, rfl⟩ := List.getElem_of_mem hx
    have e := adp_getD (sqs n) R i
    rw [getD_lt hi, sqs_getD, if_pos (by omega)] at e
    have := (getD_nn hvR i).1
    omega
  have hle : ∀ y ∈ B, y ≤ (n : Int) := fun y hy => by
    have := head_ge hvB y hy
    have e : B.headD 0 = B.getD 0 0 := by cases B <;> rfl
    omega
  have hm : mono (adp (sqs n) R ++ B) := mono_append (mono_valid hvP) (mono_valid hvB) fun x hx y hy => by
    have := hge x hx
    have := hle y hy
    omega
  have h1 : ∀ x ∈ adp (sqs n) R ++ B, 1 ≤ x := fun x hx => by
    rcases List.mem_append.1 hx with hx | hx
    · exact valid_ge1 hvP x hx
    · exact valid_ge1 hvB x hx
  have hput : sqPut n R B = adp (sqs n) R ++ B := by unfold sqPut sqs; simp
  refine ⟨t1, t2, hput, hm, hlP, h1, ?_⟩
  rw [hput]
  exact valid_mono hm h1 (by rw [sumL_append, hsP, hss]; omega)
theorem sq_um {n : Nat} {R B : List Int} (h : sqOk n R B = true) : (um (fun i => (adp (sqs n) R).getD i 0) (fun i => B.getD i 0) 16).1 = pad (sqPut n R B) := by
  obtain ⟨_, t2, hp, hm, _, h1, _⟩ := sq_put h
  rw [hp]
  exact um_end t2 hm (fun k => eqc_append k _ _) (List.length_append) h1
theorem getD_app (A B : List Int) (j : Nat) : (A ++ B).getD j 0 = if j < A.length then A.getD j 0 else B.getD (j - A.length) 0 := by
  rw [List.getD_eq_getElem?_getD, List.getElem?_append]
  split <;> rw [List.getD_eq_getElem?_getD]
theorem sq_back {n : Nat} {R B : List Int} (h : sqOk n R B = true) : durS (sqPut n R B) = n ∧ sqR (sqPut n R B) = R ∧ sqB (sqPut n R B) = B := by
  obtain ⟨t1, t2, hp, hm, hl, h1, hv⟩ := sq_put h
  obtain ⟨h0, h16, hvR, hvB, hRl, hB0, hs⟩ := (sqOk_iff _ _ _).1 h
  have hg : ∀ j, j < n → (sqPut n R B).getD j 0 = (n : Int) + R.getD j 0 := fun j hj => by
    rw [hp, getD_app, if_pos (by omega), adp_getD, sqs_getD, if_pos hj]
  have hd : durS (sqPut n R B) = n := durS_unique (fun j hj => by rw [hg j hj]; have := (getD_nn hvR j).1; omega) (by
    rw [hp, getD_app, if_neg (by omega), hl, Nat.sub_self]
    omega)
  have hRt : ∀ k, k ≤ n → sqRT (sqPut n R B) (n : Int) k = R.take k := by
    intro k
    induction k with
    | zero => intro _; simp [sqRT]
    | succ k ih =>
      intro hk
      rw [sqRT_succ, ih (by omega), hg k (by omega)]
      by_cases hkR : k < R.length
      · have := getD_pos hvR hkR
        rw [if_pos (by omega), List.take_succ_eq_append_getElem hkR, getD_lt hkR]
        congr 2
        omega
      · rw [getD_ge (L := R) (by omega), if_neg (by omega), List.append_nil, List.take_of_length_le (by omega), List.take_of_length_le (by omega)]
  refine ⟨hd, ?_, ?_⟩
  · unfold sqR
    rw [hd, hRt n (Nat.le_refl _), List.take_of_length_le (by omega)]
  · unfold sqB
    rw [hd, hp, List.drop_append, List.drop_eq_nil_of_le (by omega), hl, Nat.sub_self]
    rfl
theorem sqPutF_len (d : Int) (R B : List Int) : (sqPutF d R B).length ≤ 16 := by
  unfold sqPutF
  split
  · rename_i h
    obtain ⟨n, rfl⟩ := Int.eq_ofNat_of_zero_le ((sqOk_iff _ _ _).1 h).1
    exact (valid_bd (sq_put h).2.2.2.2.2.2).2.2.2
  · simp

/-- doubled parts -/
def dbl (P : List Int) : List Int := P.map fun x => 2 * x
theorem adp_self (P : List Int) : adp P P = dbl P := by
  apply List.ext_getElem
  · simp [adp, dbl]
  · intro i h1 h2
    have hi : i < P.length := by simpa [dbl] using h2
    simp [adp, dbl, List.getElem?_eq_getElem hi]
    omega
theorem two_self (P : List Int) : two P P = (valid P && decide (2 * sumL P ≤ 16)) := by
  unfold two
  cases valid P <;> simp
  constructor <;> intro h <;> omega
theorem dbl_take (P : List Int) (k : Nat) (h : k < P.length) : dbl (P.take (k + 1)) = dbl (P.take k) ++ [2 * P[k]] := by
  unfold dbl
  rw [List.take_succ_eq_append_getElem h, List.map_append]
  rfl
end NP
end Go.Proofs.Ytcjnmconehfbgaa
