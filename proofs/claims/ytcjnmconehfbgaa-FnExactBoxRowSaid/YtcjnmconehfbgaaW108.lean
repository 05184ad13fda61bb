/-
  Walks: the model's row of a box.
-/
import Derived.Test.YtcjnmconehfbgaaM61
import Derived.Test.YtcjnmconehfbgaaW109
import Derived.Test.YtcjnmconehfbgaaL1
import Derived.Test.YtcjnmconehfbgaaArr
import Derived.Test.YtcjnmconehfbgaaD27
namespace Go.Proofs.Ytcjnmconehfbgaa
open Go.RowKit NP
set_option maxRecDepth 8000
set_option linter.unusedVariables false
set_option linter.unusedSimpArgs false
/-- what lies between lo and the end of w2 is the same in w' -/
def Kb (w2 w' : World) (lo : Nat) : Prop := w2.heap.size ≤ w'.heap.size ∧ ∀ g, lo ≤ g → g < w2.heap.size → w'.heap[g]? = w2.heap[g]?
theorem Kb.dr {w2 w w' : World} {lo : Nat} (h : Kb w2 w lo) (hb : Dr w w') : Kb w2 w' lo := by
  obtain ⟨n, rfl⟩ := hb
  exact h
theorem Kb.off {w2 w : World} {lo : Nat} (h : Kb w2 w lo) (g : Nat) (hg : g < lo) (i : Nat) (u : Value) : Kb w2 (w.setCell ⟨g, i, none⟩ u) lo :=
  ⟨by simp [World.setCell]; exact h.1, fun k h1 h2 => (Below.heap_setCell w ⟨g, i, none⟩ u k (by show k ≠ g; omega)).trans (h.2 k h1 h2)⟩
theorem Own.kb {w2 w : World} {lo hi : Nat} {e : TypeId} {v : Value} {vs : List Value} (h : Own w2 lo hi e v vs) (k : Kb w2 w lo) : Own w lo hi e v vs :=
  h.keep k.1 fun g hg => k.2 g (h.base g hg) (Nat.lt_of_lt_of_le (h.lt g hg) h.le)
theorem ret_one (w : World) : ∃ a' c', Ending.returned (.slice (some ⟨w.heap.size, 0, none⟩) 1 1) = Ending.returned (.slice a' ([1] : List Int).length c') ∧ Own (w.alloc (.cells #[.int .i64 1] 3)) w.heap.size (w.alloc (.cells #[.int .i64 1] 3)).heap.size 3 (.slice a' ([1] : List Int).length c') (ints [1]) ∧ Below w.heap.size w (w.alloc (.cells #[.int .i64 1] 3)) :=
  ⟨_, 1, rfl, (Blk.new w 3 (ints [1]).toArray).own (Nat.le_refl _) (by simp [maxLen]), (Below.refl _ _).alloc (Nat.le_refl _) _⟩
set_option maxRecDepth 100000 in
set_option maxHeartbeats 4000000 in
theorem boxRow_any : ∀ (s a b : Nat) (w : World), a + b ≤ s → a ≤ 4 → b ≤ 4 →
    Calls Try.prog 56 #[.int .i64 (a : Int), .int .i64 (b : Int)] w fun e w' => ∃ a' c', e = .returned (.slice a' (gbox a b).length c') ∧ Own w' w.heap.size w'.heap.size 3 (.slice a' (gbox a b).length c') (ints (gbox a b)) ∧ Below w.heap.size w w' := by
  intro s
  induction s with
  | zero =>
    intro a b w hs ha hb
    obtain rfl : a = 0 := by omega
    have hz : gbox 0 b = [1] := gbox_zero 0 b (.inl rfl)
    rw [hz]
    go_enter Try.func56, Try.ntmps56
    go_wp2_with fail
    all_goals (go_ret; exact ret_one w)
  | succ s ih =>
    intro a b w hs ha hb
    by_cases h0 : a = 0
    · subst h0
      have hz : gbox 0 b = [1] := gbox_zero 0 b (.inl rfl)
      rw [hz]
      go_enter Try.func56, Try.ntmps56
      go_wp2_with fail
      all_goals (go_ret; exact ret_one w)
    have ea : ((a : Int) == 0) = false := beq_eq_false_iff_ne.2 (by omega)
    by_cases h1 : b = 0
    · subst h1
      have hz : gbox a 0 = [1] := gbox_zero a 0 (.inr rfl)
      rw [hz]
      go_enter Try.func56, Try.ntmps56
      go_wp2_with fail
      all_goals (go_ret; exact ret_one w)
    have eb : ((b : Int) == 0) = false := beq_eq_false_iff_ne.2 (by omega)
    obtain ⟨a1, rfl⟩ : ∃ k, a = k + 1 := ⟨a - 1, by omega⟩
    obtain ⟨b1, rfl⟩ : ∃ k, b = k + 1 := ⟨b - 1, by omega⟩
    obtain ⟨p, hp⟩ : ∃ p, (a1 + 1) * (b1 + 1) = p := ⟨_, rfl⟩
    have hp16 : p ≤ 16 := by rw [← hp]; exact Nat.le_trans (Nat.mul_le_mul ha hb) (by omega)
    have hpi : ((a1 + 1 : Nat) : Int) * ((b1 + 1 : Nat) : Int) = (p : Int) := by rw [← Int.natCast_mul, hp]
    have hG := Lib.hid (gbox_next a1 b1)
    rw [hp] at hG
    have hX := gbox_len (a1 + 1) b1
    have hY := gbox_len a1 (b1 + 1)
    have hxp : (a1 + 1) * b1 + 1 ≤ p := by rw [← hp, Nat.mul_succ]; omega
    have hyp : a1 * (b1 + 1) + 1 + b1 + 1 = p + 1 := by rw [← hp, Nat.succ_mul]; omega
    have HBX := Lib.hid (gbox_bd (a := a1 + 1) (b := b1) ha (by omega))
    have HBY := Lib.hid (gbox_bd (a := a1) (b := b1 + 1) (by omega) hb)
    have ih1 := fun w => ih (a1 + 1) b1 w (by omega) ha (by omega)
    have ih2 := fun w => ih a1 (b1 + 1) w (by omega) (by omega) hb
    have HIH := Lib.hid ih
    clear ih hp
    obtain ⟨X, hXX⟩ : ∃ X, gbox (a1 + 1) b1 = X := ⟨_, rfl⟩
    obtain ⟨Y, hYY⟩ : ∃ Y, gbox a1 (b1 + 1) = Y := ⟨_, rfl⟩
    rw [hXX] at hX hG HBX ih1
    rw [hYY] at hY hG HBY ih2
    obtain ⟨Z, hZ⟩ : ∃ Z, List.replicate (p + 1) (0 : Int) = Z := ⟨_, rfl⟩
    obtain ⟨Z2, hZ2⟩ : ∃ Z2, ad Z X 0 X.length = Z2 := ⟨_, rfl⟩
    rw [hZ, hZ2] at hG
    rw [hG.out]
    have HZL : Hid (Z.length = p + 1) := Lib.hid (by rw [← hZ, List.length_replicate])
    have HZ0 : Hid (∀ k (hk : k < Z.length), Z[k] = 0) := Lib.hid (by subst hZ; intro k hk; simp)
    have HZL2 : Hid (Z2.length = p + 1) := Lib.hid (by rw [← hZ2, ad_len, HZL.out])
    have HZB2 : Hid (∀ y ∈ Z2, 0 ≤ y ∧ y ≤ 200) := Lib.hid (by
      rw [← hZ2]
      refine ad_bd Z X 0 X.length 100 100 (fun y hy => ?_) HBX.out (by omega) (by omega)
      obtain ⟨i, hi, rfl⟩ := List.getElem_of_mem hy
      rw [HZ0.out i hi]; omega)
    have HZ := Lib.hid hZ
    have HZ2 := Lib.hid hZ2
    clear hG hXX hYY HIH hZ hZ2
    have hmk : ∀ w, (Instr.makeSlice 22 (.int .i64 ((p : Int) + 1)) (.int .i64 ((p : Int) + 1))).run Try.prog w = .ok (.slice (some ⟨w.heap.size, 0, none⟩) (p + 1) (p + 1)) (w.alloc (.cells (arr Z) 3)) := fun w => by rw [← HZ.out]; exact run_make_ints (P := Try.prog) 22 3 _ Try.underlying22 rfl rfl rfl rfl (p + 1) (by omega) w
    have eA : ((a1 + 1 : Nat) : Int) - 1 = (a1 : Int) := by omega
    have eB : ((b1 + 1 : Nat) : Int) - 1 = (b1 : Int) := by omega
    have hXl : X.length ≤ p := by omega
    have hYl : Y.length + (b1 + 1) = p + 1 := by omega
    clear hX hY hxp hyp
    obtain ⟨A, hAA⟩ : ∃ A, a1 + 1 = A := ⟨_, rfl⟩
    obtain ⟨B, hBB⟩ : ∃ B, b1 + 1 = B := ⟨_, rfl⟩
    rw [hAA] at hpi eA ea ih1 ha hs ⊢
    rw [hBB] at hpi eB eb ih2 hb hs hYl ⊢
    obtain ⟨w1, hw1⟩ : ∃ w1, w1 = w.alloc (.cells (arr Z) 3) := ⟨_, rfl⟩
    have hb1 : Below w.heap.size w w1 := hw1 ▸ (Below.refl _ _).alloc (Nat.le_refl _) _
    have hz1 : w1.heap.size = w.heap.size + 1 := by rw [hw1, World.size_alloc]
    have hB1 : Blk w1 w.heap.size 3 (arr Z) := by rw [hw1]; exact Blk.new w _ _
    have HW1 := Lib.hid hw1
    clear hw1 h0 h1 hAA hBB
    go_enter Try.func56, Try.ntmps56
    go_wp2_with fail
    rw [← HW1.out]
    refine (ih1 w1).mono ?_
    rintro e w2 ⟨aX, cX, rfl, oX, hb2⟩
    have hbw2 : Below w.heap.size w w2 := hb1.trans (hb2.mono (by omega))
    have hB2 : Blk w2 w.heap.size 3 (arr Z) := hB1.below hb2 (by omega)
    have hz2 := hb2.size
    clear hb1 hb2 hB1 hmk HW1
    go_wp2_with fail
    refine (ih2 w2).mono ?_
    rintro e w3 ⟨aY, cY, rfl, oY, hb3⟩
    replace oX := oX.below hb3
    have hbw3 : Below w.heap.size w w3 := hbw2.trans (hb3.mono (by omega))
    have hBZ : Blk w3 w.heap.size 3 (arr Z) := hB2.below hb3 (by omega)
    have hz3 := hb3.size
    replace oX := (oX.lower (lo' := w.heap.size + 1) (by omega))
    replace oY := (oY.lower (lo' := w.heap.size + 1) (by omega))
    clear hbw2 hB2 hb3
    have hKb : Kb w3 w3 (w.heap.size + 1) := ⟨Nat.le_refl _, fun _ _ _ => rfl⟩
    have hmx : Try.prog.follows .mixedOrders = true := by kernel_rfl
    go_wp2_with fail
    go_loopw [8] (fun ii wr => ∃ k : Nat, ii = .int .i64 (k : Int) ∧ k ≤ X.length ∧ Blk wr w.heap.size 3 (arr (ad Z X 0 k)) ∧ Kb w3 wr (w.heap.size + 1) ∧ Below w.heap.size w wr) (fun ii _ => X.length - (intOf ii).toNat)
    case atStart => exact ⟨0, rfl, Nat.zero_le _, by rw [ad_zero]; exact hBZ, hKb, hbw3⟩
    case round =>
      obtain ⟨k, rfl, hk, hblk, hkb, hbel⟩ := hrel
      by_cases hlt : k < X.length
      · have hox := oX.kb hkb
        obtain ⟨gX, rfl, hcx⟩ := hox.read (k := k) (by simpa using hlt)
        rw [List.getElem_map] at hcx
        have hbx := HBX.out _ (List.getElem_mem hlt)
        have hkp : k < Z.length := by rw [HZL.out]; omega
        have hkle : (k : Int) < (p : Int) + 1 := by omega
        have hcz := hblk.cell k
        have hh := ad_here Z X 0 k (by rw [Nat.zero_add]; exact hkp)
        have hst := ad_step Z X 0 k (by rw [Nat.zero_add]; exact hkp) hlt
        simp only [Nat.zero_add] at hh hst
        have hzk : Z[k] = 0 := HZ0.out k hkp
        rw [arr_get _ _ (by rw [ad_len]; exact hkp), hh] at hcz
        obtain ⟨z, hz⟩ : ∃ z, Z[k] = z := ⟨_, rfl⟩
        rw [hz] at hcz hst hzk
        have hz0 : 0 ≤ z ∧ z ≤ 200 := by omega
        clear hh hz hzk
        obtain ⟨x, hx⟩ : ∃ x, X[k] = x := ⟨_, rfl⟩
        rw [hx] at hcx hbx hst
        have hx0 := hbx.1
        have hx1 := hbx.2
        have hz1 := hz0.1
        have hz2 := hz0.2
        have hws : IntKind.i64.wrap (z + x) = z + x := IntWalk.i64_in _ (by omega)
        have hfz := hblk.free k
        have hne : gX ≠ w.heap.size := by have := hox.base gX rfl; omega
        have HST := Lib.hid hst
        clear hx hbx hst
        go_wp2_with fail
        refine wp_region_store [0, 1, 2, 3, 4, 5, 6, 7, 8, 9, 10, 11] [.slice (some ⟨w.heap.size, 0, none⟩) (p + 1) (p + 1), .int .i64 k, .slice (some ⟨w.heap.size, 0, none⟩) (p + 1) (p + 1), .int .i64 k, .pointer (some ⟨w.heap.size, k, none⟩), .int .i64 z, .slice (some ⟨gX, 0, none⟩) X.length cX, .int .i64 k, .pointer (some ⟨gX, k, none⟩), .int .i64 x, .int .i64 (z + x), .pointer (some ⟨w.heap.size, k, none⟩)] (fun w' => Dr wr w') _ hmx (fun _ h => h) rfl (by kernel_rfl) (by kernel_rfl) rfl rfl (by kernel_rfl) (by kernel_rfl) _ rfl rfl rfl 3 _ _ rfl ⟨w.heap.size, k, none⟩ (.int .i64 (z + x)) ?hx ?hy ?run ?steps ?rest
        case hx => simp only [putsOfG, Act.put, List.getElem?_toArray, List.getElem?_cons_succ, List.getElem?_cons_zero, Option.bind_some, Nat.reduceAdd, List.setIfInBounds_toArray, List.set_cons_zero, List.set_cons_succ]; rfl
        case hy => simp only [putsOfG, Act.put, List.getElem?_toArray, List.getElem?_cons_succ, List.getElem?_cons_zero, Option.bind_some, Nat.reduceAdd, List.setIfInBounds_toArray, List.set_cons_zero, List.set_cons_succ]; rfl
        case run =>
          intro wq hS
          have s1 := drCell hS hcz
          have s3 : wq.frozen? ⟨w.heap.size, k, none⟩ = false := by obtain ⟨n, rfl⟩ := hS; exact hfz
          go_simp
        case steps =>
          simp only [putsOfG, Act.put, List.getElem?_toArray, List.getElem?_cons_succ, List.getElem?_cons_zero, Option.bind_some, Nat.reduceAdd, List.setIfInBounds_toArray, List.set_cons_zero, List.set_cons_succ]
          refine StepsG.cons rfl rfl (fun wq hS => ?_) ?_
          · have s1 := drCell hS hcz
            have s2 := drCell hS hcx
            go_simp
          refine StepsG.cons rfl rfl (fun wq hS => ?_) ?_
          · have s1 := drCell hS hcz
            have s2 := drCell hS hcx
            go_simp
          refine StepsG.cons rfl rfl (fun wq hS => ?_) ?_
          · have s1 := drCell hS hcz
            have s2 := drCell hS hcx
            go_simp
          refine StepsG.cons rfl rfl (fun wq hS => ?_) ?_
          · have s1 := drCell hS hcz
            have s2 := drCell hS hcx
            go_simp
          refine StepsG.cons rfl rfl (fun wq hS => ?_) ?_
          · have s1 := drCell hS hcz
            have s2 := drCell hS hcx
            go_simp
          refine StepsG.cons rfl rfl (fun wq hS => ?_) ?_
          · have s1 := drCell hS hcz
            have s2 := drCell hS hcx
            go_simp
          refine StepsG.cons rfl rfl (fun wq hS => ?_) ?_
          · have s1 := drCell hS hcz
            have s2 := drCell hS hcx
            go_simp
          refine StepsG.cons rfl rfl (fun wq hS => ?_) ?_
          · have s1 := drCell hS hcz
            have s2 := drCell hS hcx
            go_simp
          refine StepsG.cons rfl rfl (fun wq hS => ?_) ?_
          · have s1 := drCell hS hcz
            have s2 := drCell hS hcx
            go_simp
          refine StepsG.cons rfl rfl (fun wq hS => ?_) ?_
          · have s1 := drCell hS hcz
            have s2 := drCell hS hcx
            go_simp
          refine StepsG.cons rfl rfl (fun wq hS => ?_) ?_
          · have s1 := drCell hS hcz
            have s2 := drCell hS hcx
            go_simp
          refine StepsG.cons rfl rfl (fun wq hS => ?_) ?_
          · have s1 := drCell hS hcz
            have s2 := drCell hS hcx
            go_simp
          exact StepsG.nil
        case rest =>
          intro wq hS
          simp only [putsOfG, Act.put, List.getElem?_toArray, List.getElem?_cons_succ, List.getElem?_cons_zero, Option.bind_some, Nat.reduceAdd, List.setIfInBounds_toArray, List.set_cons_zero, List.set_cons_succ]
          go_wp2_with fail
          go_roundw
          case rel =>
            have hbq := hS.below wr.heap.size
            refine ⟨k + 1, by go_num, by omega, ?_, (hkb.dr hS).off w.heap.size (by omega) _ _, (hbel.trans (hS.below _)).setCell (p := ⟨w.heap.size, k, none⟩) (Nat.le_refl _) _⟩
            rw [← HST.out, ← arr_set]
            exact (hblk.below hbq hblk.lt).set _ _
          case measure => simp [intOf] <;> omega
      · obtain rfl : k = X.length := by omega
        have hBZ2 : Blk wr w.heap.size 3 (arr Z2) := by rw [← HZ2.out]; exact hblk
        replace oY := oY.kb hkb
        replace hbw3 := hbel
        obtain ⟨w4, rfl⟩ : ∃ wx : World, wx = wr := ⟨_, rfl⟩
        clear hblk hkb hbel hBZ hKb oX HZ0 HZL
        have hKb : Kb w4 w4 (w.heap.size + 1) := ⟨Nat.le_refl _, fun _ _ _ => rfl⟩
        go_wp2_with fail
        go_loopw [9] (fun ii wr => ∃ k : Nat, ii = .int .i64 (k : Int) ∧ k ≤ Y.length ∧ Blk wr w.heap.size 3 (arr (ad Z2 Y B k)) ∧ Kb w4 wr (w.heap.size + 1) ∧ Below w.heap.size w wr) (fun ii _ => Y.length - (intOf ii).toNat)
        case atStart => exact ⟨0, rfl, Nat.zero_le _, by rw [ad_zero]; exact hBZ2, hKb, hbw3⟩
        case round =>
          obtain ⟨k, rfl, hk, hblk, hkb, hbel⟩ := hrel
          by_cases hlt : k < Y.length
          · have hox := oY.kb hkb
            obtain ⟨gX, rfl, hcx⟩ := hox.read (k := k) (by simpa using hlt)
            rw [List.getElem_map] at hcx
            have hbx := HBY.out _ (List.getElem_mem hlt)
            have hkp : B + k < Z2.length := by rw [HZL2.out]; omega
            have hcz := hblk.cell (B + k)
            have hh := ad_here Z2 Y B k hkp
            have hst := ad_step Z2 Y B k hkp hlt
            rw [arr_get _ _ (by rw [ad_len]; exact hkp), hh] at hcz
            have hz0 : 0 ≤ Z2[B + k] ∧ Z2[B + k] ≤ 200 := HZB2.out _ (List.getElem_mem hkp)
            obtain ⟨z, hz⟩ : ∃ z, Z2[B + k] = z := ⟨_, rfl⟩
            rw [hz] at hcz hst hz0
            clear hh hz
            obtain ⟨d, hd⟩ : ∃ d, B + k = d := ⟨_, rfl⟩
            rw [hd] at hcz hst hkp
            have hdp : (d : Int) < (p : Int) + 1 := by rw [HZL2.out] at hkp; omega
            have hdi : (k : Int) + (B : Int) = (d : Int) := by omega
            have hwd : IntKind.i64.wrap (d : Int) = (d : Int) := IntWalk.i64_in _ (by omega)
            clear hd
            obtain ⟨x, hx⟩ : ∃ x, Y[k] = x := ⟨_, rfl⟩
            rw [hx] at hcx hbx hst
            have hx0 := hbx.1
            have hx1 := hbx.2
            have hz1 := hz0.1
            have hz2 := hz0.2
            have hws : IntKind.i64.wrap (z + x) = z + x := IntWalk.i64_in _ (by omega)
            have hfz := hblk.free d
            have hne : gX ≠ w.heap.size := by have := hox.base gX rfl; omega
            have HST := Lib.hid hst
            clear hx hbx hst
            go_wp2_with fail
            refine wp_region_store [0, 1, 2, 3, 4, 5, 6, 7, 8, 9, 10, 11, 12, 13, 14, 15] [.slice (some ⟨w.heap.size, 0, none⟩) (p + 1) (p + 1), .int .i64 k, .int .i64 B, .int .i64 d, .slice (some ⟨w.heap.size, 0, none⟩) (p + 1) (p + 1), .int .i64 k, .int .i64 B, .int .i64 d, .pointer (some ⟨w.heap.size, d, none⟩), .int .i64 z, .slice (some ⟨gX, 0, none⟩) Y.length cY, .int .i64 k, .pointer (some ⟨gX, k, none⟩), .int .i64 x, .int .i64 (z + x), .pointer (some ⟨w.heap.size, d, none⟩)] (fun w' => Dr wr w') _ hmx (fun _ h => h) rfl (by kernel_rfl) (by kernel_rfl) rfl rfl (by kernel_rfl) (by kernel_rfl) _ rfl rfl rfl 3 _ _ rfl ⟨w.heap.size, d, none⟩ (.int .i64 (z + x)) ?hx ?hy ?run ?steps ?rest
            case hx => simp only [putsOfG, Act.put, List.getElem?_toArray, List.getElem?_cons_succ, List.getElem?_cons_zero, Option.bind_some, Nat.reduceAdd, List.setIfInBounds_toArray, List.set_cons_zero, List.set_cons_succ]; rfl
            case hy => simp only [putsOfG, Act.put, List.getElem?_toArray, List.getElem?_cons_succ, List.getElem?_cons_zero, Option.bind_some, Nat.reduceAdd, List.setIfInBounds_toArray, List.set_cons_zero, List.set_cons_succ]; rfl
            case run =>
              intro wq hS
              have s1 := drCell hS hcz
              have s3 : wq.frozen? ⟨w.heap.size, d, none⟩ = false := by obtain ⟨n, rfl⟩ := hS; exact hfz
              go_simp
            case steps =>
              simp only [putsOfG, Act.put, List.getElem?_toArray, List.getElem?_cons_succ, List.getElem?_cons_zero, Option.bind_some, Nat.reduceAdd, List.setIfInBounds_toArray, List.set_cons_zero, List.set_cons_succ]
              refine StepsG.cons rfl rfl (fun wq hS => ?_) ?_
              · have s1 := drCell hS hcz
                have s2 := drCell hS hcx
                go_simp
              refine StepsG.cons rfl rfl (fun wq hS => ?_) ?_
              · have s1 := drCell hS hcz
                have s2 := drCell hS hcx
                go_simp
              refine StepsG.cons rfl rfl (fun wq hS => ?_) ?_
              · have s1 := drCell hS hcz
                have s2 := drCell hS hcx
                go_simp
              refine StepsG.cons rfl rfl (fun wq hS => ?_) ?_
              · have s1 := drCell hS hcz
                have s2 := drCell hS hcx
                go_simp
              refine StepsG.cons rfl rfl (fun wq hS => ?_) ?_
              · have s1 := drCell hS hcz
                have s2 := drCell hS hcx
                go_simp
              refine StepsG.cons rfl rfl (fun wq hS => ?_) ?_
              · have s1 := drCell hS hcz
                have s2 := drCell hS hcx
                go_simp
              refine StepsG.cons rfl rfl (fun wq hS => ?_) ?_
              · have s1 := drCell hS hcz
                have s2 := drCell hS hcx
                go_simp
              refine StepsG.cons rfl rfl (fun wq hS => ?_) ?_
              · have s1 := drCell hS hcz
                have s2 := drCell hS hcx
                go_simp
              refine StepsG.cons rfl rfl (fun wq hS => ?_) ?_
              · have s1 := drCell hS hcz
                have s2 := drCell hS hcx
                go_simp
              refine StepsG.cons rfl rfl (fun wq hS => ?_) ?_
              · have s1 := drCell hS hcz
                have s2 := drCell hS hcx
                go_simp
              refine StepsG.cons rfl rfl (fun wq hS => ?_) ?_
              · have s1 := drCell hS hcz
                have s2 := drCell hS hcx
                go_simp
              refine StepsG.cons rfl rfl (fun wq hS => ?_) ?_
              · have s1 := drCell hS hcz
                have s2 := drCell hS hcx
                go_simp
              refine StepsG.cons rfl rfl (fun wq hS => ?_) ?_
              · have s1 := drCell hS hcz
                have s2 := drCell hS hcx
                go_simp
              refine StepsG.cons rfl rfl (fun wq hS => ?_) ?_
              · have s1 := drCell hS hcz
                have s2 := drCell hS hcx
                go_simp
              refine StepsG.cons rfl rfl (fun wq hS => ?_) ?_
              · have s1 := drCell hS hcz
                have s2 := drCell hS hcx
                go_simp
              refine StepsG.cons rfl rfl (fun wq hS => ?_) ?_
              · have s1 := drCell hS hcz
                have s2 := drCell hS hcx
                go_simp
              exact StepsG.nil
            case rest =>
              intro wq hS
              simp only [putsOfG, Act.put, List.getElem?_toArray, List.getElem?_cons_succ, List.getElem?_cons_zero, Option.bind_some, Nat.reduceAdd, List.setIfInBounds_toArray, List.set_cons_zero, List.set_cons_succ]
              go_wp2_with fail
              go_roundw
              case rel =>
                have hbq := hS.below wr.heap.size
                refine ⟨k + 1, by go_num, by omega, ?_, (hkb.dr hS).off w.heap.size (by omega) _ _, (hbel.trans (hS.below _)).setCell (p := ⟨w.heap.size, d, none⟩) (Nat.le_refl _) _⟩
                rw [← HST.out, ← arr_set]
                exact (hblk.below hbq hblk.lt).set _ _
              case measure => simp [intOf] <;> omega
          · obtain rfl : k = Y.length := by omega
            go_wp2_with fail
            go_ret
            have hown := hblk.own (lo := w.heap.size) (Nat.le_refl _) (by rw [List.length_map, ad_len, HZL2.out]; unfold maxLen; omega)
            rw [List.length_map] at hown
            have e1 : (ad Z2 Y B Y.length).length = p + 1 := by rw [ad_len, HZL2.out]
            rw [e1] at hown ⊢
            exact ⟨_, p + 1, rfl, hown, hbel⟩
end Go.Proofs.Ytcjnmconehfbgaa
