/-
  Walks: the parts at a place, of the program and of the model.
-/
import Derived.Test.YteglcoalfgjjiaaW18
namespace Go.Proofs.Yteglcoalfgjjiaa
open Go.RowKit NP
set_option linter.unusedVariables false

/-- what is left to be found: R is laid behind A -/
structure Goes (R A : List Int) (f : Nat) (n m k : Int) : Prop where
  n0 : 0 ≤ n
  n16 : n ≤ 16
  nf : n ≤ f
  m0 : 0 ≤ m
  m16 : m ≤ 16
  k0 : 0 ≤ k
  kc : k < ctZ n m
  eq : A ++ pat f n m k = R
theorem Goes.start {n k : Int} (h : patOk n k = true) : Goes (patF n k) [] 16 n n k := by
  obtain ⟨h1, h2, h3, h4⟩ := patOk_out h
  exact ⟨h1, h2, by omega, h1, h2, h3, h4, by rw [patF_yes h]; rfl⟩
theorem Goes.stop {R A : List Int} {f : Nat} {m k : Int} (h : Goes R A f 0 m k) : A = R := by
  have := h.eq
  cases f with
  | zero => simpa [pat] using this
  | succ f => rw [pat, if_pos (Int.le_refl _)] at this; simpa using this
theorem Goes.m1 {R A : List Int} {f : Nat} {n m k : Int} (h : Goes R A f n m k) (hn : 1 ≤ n) : 1 ≤ m := by
  rcases Int.lt_or_le m 1 with h1 | h1
  · have := h.m0
    obtain rfl : m = 0 := by omega
    have := h.kc
    rw [ctZ_none n (by omega)] at this
    have := h.k0
    omega
  · exact h1
theorem Goes.next {R A : List Int} {f : Nat} {n m k : Int} (h : Goes R A f n m k) (hn : 1 ≤ n) {y k' : Int} (he : fx 41 n (min n m) k = (y, k')) (hy1 : 1 ≤ y) (hyn : y ≤ n) (hk0 : 0 ≤ k') (hk : k' < ctZ (n - y) y) : ∃ f', Goes R (A ++ [y]) f' (n - y) y k' := by
  have h1 := h.n16
  have h2 := h.nf
  cases f with
  | zero => omega
  | succ f =>
    refine ⟨f, by omega, by omega, by omega, by omega, by omega, hk0, hk, ?_⟩
    have := h.eq
    rw [pat, if_neg (by omega), he] at this
    rw [List.append_assoc]
    exact this
/-- on the way down from the greatest part -/
structure Down (S : Int × Int) (g : Nat) (n y k : Int) : Prop where
  y1 : 1 ≤ y
  yn : y ≤ n
  yg : y < g
  k0 : 0 ≤ k
  kc : k < ctZ n y
  eq : fx g n y k = S
theorem Down.start {R A : List Int} {f : Nat} {n m k : Int} (h : Goes R A f n m k) (hn : 1 ≤ n) : Down (fx 41 n (min n m) k) 41 n (min n m) k := by
  have h1 := h.n16
  have h2 := h.m1 hn
  exact ⟨by omega, by omega, by omega, h.k0, by rw [ctZ_min (by omega)]; exact h.kc, rfl⟩
theorem Down.step {S : Int × Int} {g : Nat} {n y k : Int} (h : Down S g n y k) (hc : ctZ (n - y) y ≤ k) : ∃ g', Down S g' n (y - 1) (k - ctZ (n - y) y) := by
  have h1 := h.y1
  have h2 := h.yn
  have h3 := h.yg
  have h4 := h.kc
  have e := ctZ_rec n y (by omega) h1
  cases g with
  | zero => omega
  | succ g =>
    have hy2 : 1 ≤ y - 1 := by
      rcases Int.lt_or_le y 2 with h5 | h5
      · obtain rfl : y = 1 := by omega
        have e0 : (1 : Int) - 1 = 0 := rfl
        rw [e0, ctZ_none n (by omega)] at e
        omega
      · omega
    refine ⟨g, hy2, by omega, by omega, by omega, by omega, ?_⟩
    have := h.eq
    rw [fx, if_pos hc] at this
    exact this
theorem Down.stop {S : Int × Int} {g : Nat} {n y k : Int} (h : Down S g n y k) (hc : ¬ ctZ (n - y) y ≤ k) : S = (y, k) := by
  have h3 := h.yg
  have h1 := h.y1
  have := h.eq
  cases g with
  | zero => omega
  | succ g => rw [fx, if_neg hc] at this; exact this.symm

theorem own_nilA (w : World) (lo : Nat) (e : TypeId) : Own w lo w.heap.size e (.slice none ([] : List Int).length 0) (ints []) := Own.nil w lo e

set_option maxHeartbeats 2000000 in
theorem sPartsAt_any (n k : Int) (w : World) :
    Calls Try.prog 21 #[.int .i64 n, .int .i64 k] w fun e w' => ∃ a' c', e = .returned (.tuple #[.slice a' (patF n k).length c', .bool (patOk n k)]) ∧ Own w' w.heap.size w'.heap.size 3 (.slice a' (patF n k).length c') (ints (patF n k)) ∧ Below w.heap.size w w' := by
  obtain ⟨i0, hi, hz0, hz1, hz2⟩ := T_int'
  by_cases hn : 0 ≤ n ∧ n ≤ 16
  · have HR1 : Hid (inR n 0 16 = true) := Lib.hid (by unfold inR; rw [decide_eq_true hn.1, decide_eq_true hn.2]; rfl)
    have hcb := ctZ_bd n n (by omega)
    by_cases hk : 0 ≤ k ∧ k < ctZ n n
    · have HR2 : Hid (inR k 0 (ctZ n n - 1) = true) := Lib.hid (by unfold inR; rw [decide_eq_true hk.1, decide_eq_true (by omega : k ≤ ctZ n n - 1)]; rfl)
      have hok : patOk n k = true := patOk_yes ⟨hn.1, hn.2, hk.1, hk.2⟩
      have HG := Lib.hid (Goes.start hok)
      have hRl := patF_len n k
      rw [hok]
      obtain ⟨R, hR⟩ : ∃ R, R = patF n k := ⟨_, rfl⟩
      rw [← hR] at HG hRl ⊢
      clear hR hok
      obtain ⟨hn0, hn16⟩ := hn
      clear hk
      go_enter Try.func21, Try.ntmps21
      go_wp2_with (first
        | (go_at_call 46; have hsx := hs1; refine (inRange_any k 0 (ctZ n n - 1) _).mono ?_; rintro e wv ⟨rfl, rfl⟩; rw [HR2.out])
        | (go_at_call 47; refine (countTo_at n n _ (by omega) (by omega) (by omega) (by omega)).mono ?_; rintro e wv ⟨rfl, rfl⟩; have hs1 : True := trivial)
        | (go_at_call 46; refine (inRange_any n 0 16 _).mono ?_; rintro e wv ⟨rfl, rfl⟩; rw [HR1.out]))
      clear HR1 HR2
      go_loopw [0, 1, 6, 7, 8] (fun v0 v1 v6 v7 _ wr => ∃ (n k m : Int) (A : List Int) (f : Nat), v0 = .int .i64 n ∧ v1 = .int .i64 k ∧ v7 = .int .i64 m ∧ (0 ≤ n ∧ n ≤ 16) ∧ Hid (Goes R A f n m k) ∧ Below w.heap.size w wr ∧ Own wr w.heap.size wr.heap.size 3 v6 (ints A)) (fun v0 _ _ _ _ _ => (intOf v0).toNat)
      case atStart => exact ⟨n, k, n, [], 16, rfl, rfl, rfl, ⟨hn0, hn16⟩, HG, (Below.refl _ _).alloc (Nat.le_refl _) _, (Own.empty w 3).more⟩
      case round =>
        clear HG hcb hn0 hn16
        obtain ⟨n, k, m, A, f, rfl, rfl, rfl, ⟨hn0, hn16⟩, HG, hbel, hown⟩ := hrel
        have hm0 := HG.out.m0
        have hm16 := HG.out.m16
        have hk0 := HG.out.k0
        have HO := Lib.hid hown
        clear hown
        have hAl : A.length ≤ 16 := by have := congrArg List.length HG.out.eq; simp at this; omega
        by_cases hn1 : 1 ≤ n
        · have hn1' : 0 < n := by omega
          have HD := Lib.hid (Down.start HG.out hn1)
          have HN := Lib.hid (fun (y k' : Int) (he : fx 41 n (min n m) k = (y, k')) (a1 : 1 ≤ y) (a2 : y ≤ n) (a3 : 0 ≤ k') (a4 : k' < ctZ (n - y) y) => HG.out.next hn1 he a1 a2 a3 a4)
          obtain ⟨X, hX⟩ : ∃ X, X = min n m := ⟨_, rfl⟩
          obtain ⟨S, hS⟩ : ∃ S, S = fx 41 n X k := ⟨_, rfl⟩
          rw [← hX, ← hS] at HD HN
          by_cases hmn : m < n
          · have hXe : X = m := by omega
            rw [hXe] at HD
            clear hX hS hXe
            go_wp2_with fail
            obtain ⟨w5, rfl⟩ : ∃ w5 : World, w5 = wr := ⟨_, rfl⟩
            go_loopw [1, 8] (fun v1 v8 wr => ∃ (g : Nat) (y k' : Int), v1 = .int .i64 k' ∧ v8 = .int .i64 y ∧ (1 ≤ y ∧ y ≤ n) ∧ (0 ≤ k' ∧ k' ≤ 1099511627776) ∧ Hid (Down S g n y k') ∧ wr = w5) (fun _ v8 _ => (intOf v8).toNat)
            case atStart => exact ⟨41, _, k, rfl, rfl, ⟨HD.out.y1, HD.out.yn⟩, ⟨hk0, Int.le_trans (Int.le_of_lt HD.out.kc) (ctZ_bd n _ (by omega)).2⟩, HD, rfl⟩
            case round =>
              clear HD
              obtain ⟨g, y, k', rfl, rfl, ⟨hy1, hyn⟩, ⟨hk1, hk2⟩, HDN, rfl⟩ := hrel
              have hcb := ctZ_bd (n - y) y (by omega)
              have HST := Lib.hid HDN.out.step
              have HSP := Lib.hid HDN.out.stop
              by_cases hc : ctZ (n - y) y ≤ k'
              · obtain ⟨g', HD2⟩ := HST.out hc
                have hd1 : 1 ≤ y - 1 := HD2.y1
                have hd2 : 0 ≤ k' - ctZ (n - y) y := HD2.k0
                have HD3 := Lib.hid HD2
                have dc : decide (ctZ (n - y) y ≤ k') = true := decide_eq_true hc
                clear HD2 HST HSP
                go_wp2_with (go_at_call 47; refine (countTo_at (n - y) y _ (by omega) (by omega) (by omega) (by omega)).mono ?_; rintro e wv ⟨rfl, rfl⟩)
                go_roundw
                case rel => exact ⟨g', y - 1, k' - ctZ (n - y) y, by go_num, by go_num, ⟨hd1, by omega⟩, ⟨hd2, by omega⟩, HD3, trivial⟩
                case measure => simp [intOf]; omega
              · have hSe := HSP.out hc
                obtain ⟨f', HG2⟩ := HN.out _ _ hSe hy1 hyn hk1 (by omega)
                have HG3 := Lib.hid HG2
                have dc : decide (ctZ (n - y) y ≤ k') = false := decide_eq_false hc
                clear HG2 hSe HST HSP HN HDN
                go_wp2_with (first
                  | (at_builtin; refine wpList_append_o _ rfl (.tmp 44) (.tmp 46) 22 rfl w.heap.size _ 3 i0 (.int .i64 0) 8 Try.underlying22 hi hz0 hz1 hz2 rfl _ (ints A) rfl (HO.out.alloc _) (_ + 1) (some ⟨_, 0, none⟩) 1 1 [.int .i64 y] rfl (Rd.one _ _ _) rfl (by simp; rfl) (by simp; unfold maxLen; omega) (by simp; omega) (by have := hbel.size; simp; omega) ?_; intro v' w1 ho1 hg1 hat1)
                  | (go_at_call 47; refine (countTo_at (n - y) y _ (by omega) (by omega) (by omega) (by omega)).mono ?_; rintro e wv ⟨rfl, rfl⟩))
                go_roundw
                case rel =>
                  refine ⟨n - y, k', y, A ++ [y], f', by go_num, rfl, rfl, ⟨by omega, by omega⟩, HG3, below_push hbel (Nat.le_refl _) hg1 HO.out.base, ?_⟩
                  simpa [ints] using ho1
                case measure => simp [intOf]; omega
          · have hXe : X = n := by omega
            rw [hXe] at HD
            clear hX hS hXe
            go_wp2_with fail
            obtain ⟨w5, rfl⟩ : ∃ w5 : World, w5 = wr := ⟨_, rfl⟩
            go_loopw [1, 8] (fun v1 v8 wr => ∃ (g : Nat) (y k' : Int), v1 = .int .i64 k' ∧ v8 = .int .i64 y ∧ (1 ≤ y ∧ y ≤ n) ∧ (0 ≤ k' ∧ k' ≤ 1099511627776) ∧ Hid (Down S g n y k') ∧ wr = w5) (fun _ v8 _ => (intOf v8).toNat)
            case atStart => exact ⟨41, _, k, rfl, rfl, ⟨HD.out.y1, HD.out.yn⟩, ⟨hk0, Int.le_trans (Int.le_of_lt HD.out.kc) (ctZ_bd n _ (by omega)).2⟩, HD, rfl⟩
            case round =>
              clear HD
              obtain ⟨g, y, k', rfl, rfl, ⟨hy1, hyn⟩, ⟨hk1, hk2⟩, HDN, rfl⟩ := hrel
              have hcb := ctZ_bd (n - y) y (by omega)
              have HST := Lib.hid HDN.out.step
              have HSP := Lib.hid HDN.out.stop
              by_cases hc : ctZ (n - y) y ≤ k'
              · obtain ⟨g', HD2⟩ := HST.out hc
                have hd1 : 1 ≤ y - 1 := HD2.y1
                have hd2 : 0 ≤ k' - ctZ (n - y) y := HD2.k0
                have HD3 := Lib.hid HD2
                have dc : decide (ctZ (n - y) y ≤ k') = true := decide_eq_true hc
                clear HD2 HST HSP
                go_wp2_with (go_at_call 47; refine (countTo_at (n - y) y _ (by omega) (by omega) (by omega) (by omega)).mono ?_; rintro e wv ⟨rfl, rfl⟩)
                go_roundw
                case rel => exact ⟨g', y - 1, k' - ctZ (n - y) y, by go_num, by go_num, ⟨hd1, by omega⟩, ⟨hd2, by omega⟩, HD3, trivial⟩
                case measure => simp [intOf]; omega
              · have hSe := HSP.out hc
                obtain ⟨f', HG2⟩ := HN.out _ _ hSe hy1 hyn hk1 (by omega)
                have HG3 := Lib.hid HG2
                have dc : decide (ctZ (n - y) y ≤ k') = false := decide_eq_false hc
                clear HG2 hSe HST HSP HN HDN
                go_wp2_with (first
                  | (at_builtin; refine wpList_append_o _ rfl (.tmp 44) (.tmp 46) 22 rfl w.heap.size _ 3 i0 (.int .i64 0) 8 Try.underlying22 hi hz0 hz1 hz2 rfl _ (ints A) rfl (HO.out.alloc _) (_ + 1) (some ⟨_, 0, none⟩) 1 1 [.int .i64 y] rfl (Rd.one _ _ _) rfl (by simp; rfl) (by simp; unfold maxLen; omega) (by simp; omega) (by have := hbel.size; simp; omega) ?_; intro v' w1 ho1 hg1 hat1)
                  | (go_at_call 47; refine (countTo_at (n - y) y _ (by omega) (by omega) (by omega) (by omega)).mono ?_; rintro e wv ⟨rfl, rfl⟩))
                go_roundw
                case rel =>
                  refine ⟨n - y, k', y, A ++ [y], f', by go_num, rfl, rfl, ⟨by omega, by omega⟩, HG3, below_push hbel (Nat.le_refl _) hg1 HO.out.base, ?_⟩
                  simpa [ints] using ho1
                case measure => simp [intOf]; omega
        · obtain rfl : n = 0 := by omega
          have hA := HG.out.stop
          subst hA
          obtain ⟨a', c', hf⟩ := HO.out.form
          subst hf
          have hq : (ints A).length = A.length := by simp
          rw [hq] at HO ⊢
          clear hq
          go_wp2_with fail
          go_ret2
          exact ⟨a', c', rfl, HO.out, hbel⟩
    · have HR2 : Hid (inR k 0 (ctZ n n - 1) = false) := Lib.hid (by
        unfold inR
        rcases Int.lt_or_le k 0 with h0 | h0
        · rw [decide_eq_false (by omega : ¬ 0 ≤ k)]; rfl
        · rw [decide_eq_false (by omega : ¬ k ≤ ctZ n n - 1), Bool.and_false])
      have hok : patOk n k = false := patOk_no (fun h => hk ⟨h.2.2.1, h.2.2.2⟩)
      rw [patF_no hok, hok]
      obtain ⟨hn0, hn16⟩ := hn
      clear hk hok
      go_enter Try.func21, Try.ntmps21
      go_wp2_with (first
        | (go_at_call 46; have hsx := hs1; refine (inRange_any k 0 (ctZ n n - 1) _).mono ?_; rintro e wv ⟨rfl, rfl⟩; rw [HR2.out])
        | (go_at_call 47; refine (countTo_at n n _ (by omega) (by omega) (by omega) (by omega)).mono ?_; rintro e wv ⟨rfl, rfl⟩; have hs1 : True := trivial)
        | (go_at_call 46; refine (inRange_any n 0 16 _).mono ?_; rintro e wv ⟨rfl, rfl⟩; rw [HR1.out]))
      go_ret2
      exact ⟨none, 0, rfl, own_nilA _ _ _, Below.refl _ _⟩
  · have HR1 : Hid (inR n 0 16 = false) := Lib.hid (by
      unfold inR
      rcases Int.lt_or_le n 0 with h0 | h0
      · rw [decide_eq_false (by omega : ¬ 0 ≤ n)]; rfl
      · rw [decide_eq_false (by omega : ¬ n ≤ 16), Bool.and_false])
    have hok : patOk n k = false := patOk_no (fun h => hn ⟨h.1, h.2.1⟩)
    rw [patF_no hok, hok]
    clear hn hok
    go_enter Try.func21, Try.ntmps21
    go_wp2_with (go_at_call 46; refine (inRange_any n 0 16 _).mono ?_; rintro e wv ⟨rfl, rfl⟩; rw [HR1.out])
    go_ret2
    exact ⟨none, 0, rfl, own_nilA _ _ _, Below.refl _ _⟩

theorem pad_push {A : List Int} (h : A.length < 16) (y : Int) : (pad A).set A.length y = pad (A ++ [y]) := by
  unfold pad
  rw [show 16 - A.length = (16 - (A.length + 1)) + 1 by omega, List.replicate_succ, List.set_append_right _ _ (Nat.le_refl _), Nat.sub_self, List.set_cons_zero]
  simp

set_option maxHeartbeats 2000000 in
theorem iPartsAt_any (n k : Int) (w : World) :
    Calls Try.prog 17 #[.int .i64 n, .int .i64 k] w fun e w' => ∃ a' c', e = .returned (.tuple #[.slice a' (patF n k).length c', .bool (patOk n k)]) ∧ Own w' w.heap.size w'.heap.size 3 (.slice a' (patF n k).length c') (ints (patF n k)) ∧ Below w.heap.size w w' := by
  by_cases hn : 0 ≤ n ∧ n ≤ 16
  · have hcb := ctZ_bd n n (by omega)
    have HCP : Hid (cpF n = ctZ n n) := Lib.hid (cpF_in ⟨hn.1, by omega⟩)
    have d1 : decide (n < 0) = false := decide_eq_false (by omega)
    have d2 : decide (16 < n) = false := decide_eq_false (by omega)
    by_cases hk : 0 ≤ k ∧ k < ctZ n n
    · have d3 : decide (k < 0) = false := decide_eq_false (by omega)
      have d4 : decide (ctZ n n ≤ k) = false := decide_eq_false (by omega)
      have hok : patOk n k = true := patOk_yes ⟨hn.1, hn.2, hk.1, hk.2⟩
      have HG := Lib.hid (Goes.start hok)
      have hRl := patF_len n k
      have hRv : valid (patF n k) = true := by rw [patF_yes hok]; exact (pat_valid hok).1
      rw [hok]
      obtain ⟨R, hR⟩ : ∃ R, R = patF n k := ⟨_, rfl⟩
      rw [← hR] at HG hRl hRv ⊢
      have HRV := Lib.hid hRv
      clear hR hok hRv
      obtain ⟨hn0, hn16⟩ := hn
      clear hk
      go_enter Try.func17, Try.ntmps17
      go_wp2_with (go_at_call 20; refine (iCountParts_any n _).mono ?_; rintro e w1 ⟨rfl, hb1⟩; rw [HCP.out])
      have hs1 := hb1.size
      go_loopw [0, 1, 7, 8, 9] (fun v0 v1 v7 v8 _ wr => ∃ (n k m : Int) (A : List Int) (f : Nat), v0 = .int .i64 n ∧ v1 = .int .i64 k ∧ v7 = .int .i64 m ∧ v8 = .int .i64 (A.length : Int) ∧ (0 ≤ n ∧ n ≤ 16) ∧ Hid (Goes R A f n m k) ∧ Below w.heap.size w wr ∧ Blk wr w1.heap.size 45 (arr (pad A))) (fun v0 _ _ _ _ _ => (intOf v0).toNat)
      case atStart => exact ⟨n, k, n, [], 16, rfl, rfl, rfl, rfl, ⟨hn0, hn16⟩, HG, hb1.alloc hs1 _, Blk.new w1 _ _⟩
      case round =>
        clear HG hcb hn0 hn16 d1 d2 d3 d4
        obtain ⟨n, k, m, A, f, rfl, rfl, rfl, rfl, ⟨hn0, hn16⟩, HG, hbel, hbk⟩ := hrel
        have hm0 := HG.out.m0
        have hm16 := HG.out.m16
        have hk0 := HG.out.k0
        have hAl : A.length ≤ 16 := by have := congrArg List.length HG.out.eq; simp at this; omega
        obtain ⟨N, rfl⟩ : ∃ N : Nat, n = (N : Int) := ⟨n.toNat, by omega⟩
        by_cases hn1 : 1 ≤ (N : Int)
        · have hn1' : 0 < N := by omega
          have HD := Lib.hid (Down.start HG.out hn1)
          have HN := Lib.hid (fun (y k' : Int) (he : fx 41 N (min (N : Int) m) k = (y, k')) (a1 : 1 ≤ y) (a2 : y ≤ N) (a3 : 0 ≤ k') (a4 : k' < ctZ (N - y) y) => HG.out.next hn1 he a1 a2 a3 a4)
          obtain ⟨X, hX⟩ : ∃ X, X = min (N : Int) m := ⟨_, rfl⟩
          obtain ⟨S, hS⟩ : ∃ S, S = fx 41 (N : Int) X k := ⟨_, rfl⟩
          rw [← hX, ← hS] at HD HN
          by_cases hmn : (N : Int) < m
          · have hXe : X = N := by omega
            rw [hXe] at HD
            clear hX hS hXe
            go_wp2_with fail
            obtain ⟨w5, rfl⟩ : ∃ w5 : World, w5 = wr := ⟨_, rfl⟩
            go_loopw [1, 9] (fun v1 v9 wr => ∃ (g : Nat) (y k' : Int), v1 = .int .i64 k' ∧ v9 = .int .i64 y ∧ (1 ≤ y ∧ y ≤ N) ∧ (0 ≤ k' ∧ k' ≤ 1099511627776) ∧ Hid (Down S g N y k') ∧ Below w5.heap.size w5 wr) (fun _ v9 _ => (intOf v9).toNat)
            case atStart => exact ⟨41, _, k, rfl, rfl, ⟨HD.out.y1, HD.out.yn⟩, ⟨hk0, Int.le_trans (Int.le_of_lt HD.out.kc) (ctZ_bd N _ (by omega)).2⟩, HD, Below.refl _ _⟩
            case round =>
              clear HD
              obtain ⟨g, y, k', rfl, rfl, ⟨hy1, hyn⟩, ⟨hk1, hk2⟩, HDN, hbw⟩ := hrel
              have hcb := ctZ_bd (N - y) y (by omega)
              have HST := Lib.hid HDN.out.step
              have HSP := Lib.hid HDN.out.stop
              obtain ⟨Y, rfl⟩ : ∃ Y : Nat, y = (Y : Int) := ⟨y.toNat, by omega⟩
              by_cases hc : ctZ ((N : Int) - (Y : Int)) (Y : Int) ≤ k'
              · obtain ⟨g', HD2⟩ := HST.out hc
                have hd1 : 1 ≤ (Y : Int) - 1 := HD2.y1
                have hd2 : 0 ≤ k' - ctZ ((N : Int) - (Y : Int)) (Y : Int) := HD2.k0
                have HD3 := Lib.hid HD2
                have dc : decide (ctZ ((N : Int) - (Y : Int)) (Y : Int) ≤ k') = true := decide_eq_true hc
                clear HD2 HST HSP
                go_wp2_with (go_at_call 43; refine (cwg_any N Y (by omega) (by omega) _).mono ?_; rintro e wq ⟨rfl, hbq⟩; replace hbw := hbw.trans (hbq.mono hbw.size); clear hbq)
                go_roundw
                case rel => exact ⟨g', (Y : Int) - 1, k' - ctZ ((N : Int) - (Y : Int)) (Y : Int), by go_num, by go_num, ⟨hd1, by omega⟩, ⟨hd2, by omega⟩, HD3, hbw⟩
                case measure => simp [intOf]; omega
              · have hSe := HSP.out hc
                obtain ⟨f', HG2⟩ := HN.out _ _ hSe hy1 hyn hk1 (by omega)
                have hAl2 : A.length < 16 := by have := congrArg List.length HG2.eq; simp at this; omega
                have hAl2' : (A.length : Int) < 16 := by omega
                have HG3 := Lib.hid HG2
                have HPP := Lib.hid (pad_push hAl2 (Y : Int))
                have dc : decide (ctZ ((N : Int) - (Y : Int)) (Y : Int) ≤ k') = false := decide_eq_false hc
                have hlt5 := hbk.lt
                have hbk5 := hbk.below hbw hlt5
                have hpl : A.length < (pad A).length := by rw [pad_len hAl]; exact hAl2
                clear HG2 hSe HST HSP HN HDN
                go_wp2_with (go_at_call 43; refine (cwg_any N Y (by omega) (by omega) _).mono ?_; rintro e wq ⟨rfl, hbq⟩; replace hbk5 := hbk5.below hbq (Nat.lt_of_lt_of_le hlt5 hbw.size); replace hbw := hbw.trans (hbq.mono hbw.size); clear hbq; have hcq : wq.cell? ⟨w1.heap.size, A.length, none⟩ = some (.int .i64 (pad A)[A.length]) := (by rw [hbk5.cell A.length, arr_get _ _ hpl]); have hfq : wq.frozen? ⟨w1.heap.size, A.length, none⟩ = false := hbk5.free _)
                go_roundw
                case rel =>
                  have e := hbk5.set A.length (.int .i64 (Y : Int))
                  rw [arr_set, HPP.out] at e
                  exact ⟨(N : Int) - (Y : Int), k', (Y : Int), A ++ [(Y : Int)], f', by go_num, rfl, rfl, by simp, ⟨by omega, by omega⟩, HG3, (hbel.trans (hbw.mono hbel.size)).setCell (by show w.heap.size ≤ w1.heap.size; exact hs1) _, e⟩
                case measure => simp [intOf]; omega
          · have hXe : X = m := by omega
            rw [hXe] at HD
            clear hX hS hXe
            go_wp2_with fail
            obtain ⟨w5, rfl⟩ : ∃ w5 : World, w5 = wr := ⟨_, rfl⟩
            go_loopw [1, 9] (fun v1 v9 wr => ∃ (g : Nat) (y k' : Int), v1 = .int .i64 k' ∧ v9 = .int .i64 y ∧ (1 ≤ y ∧ y ≤ N) ∧ (0 ≤ k' ∧ k' ≤ 1099511627776) ∧ Hid (Down S g N y k') ∧ Below w5.heap.size w5 wr) (fun _ v9 _ => (intOf v9).toNat)
            case atStart => exact ⟨41, _, k, rfl, rfl, ⟨HD.out.y1, HD.out.yn⟩, ⟨hk0, Int.le_trans (Int.le_of_lt HD.out.kc) (ctZ_bd N _ (by omega)).2⟩, HD, Below.refl _ _⟩
            case round =>
              clear HD
              obtain ⟨g, y, k', rfl, rfl, ⟨hy1, hyn⟩, ⟨hk1, hk2⟩, HDN, hbw⟩ := hrel
              have hcb := ctZ_bd (N - y) y (by omega)
              have HST := Lib.hid HDN.out.step
              have HSP := Lib.hid HDN.out.stop
              obtain ⟨Y, rfl⟩ : ∃ Y : Nat, y = (Y : Int) := ⟨y.toNat, by omega⟩
              by_cases hc : ctZ ((N : Int) - (Y : Int)) (Y : Int) ≤ k'
              · obtain ⟨g', HD2⟩ := HST.out hc
                have hd1 : 1 ≤ (Y : Int) - 1 := HD2.y1
                have hd2 : 0 ≤ k' - ctZ ((N : Int) - (Y : Int)) (Y : Int) := HD2.k0
                have HD3 := Lib.hid HD2
                have dc : decide (ctZ ((N : Int) - (Y : Int)) (Y : Int) ≤ k') = true := decide_eq_true hc
                clear HD2 HST HSP
                go_wp2_with (go_at_call 43; refine (cwg_any N Y (by omega) (by omega) _).mono ?_; rintro e wq ⟨rfl, hbq⟩; replace hbw := hbw.trans (hbq.mono hbw.size); clear hbq)
                go_roundw
                case rel => exact ⟨g', (Y : Int) - 1, k' - ctZ ((N : Int) - (Y : Int)) (Y : Int), by go_num, by go_num, ⟨hd1, by omega⟩, ⟨hd2, by omega⟩, HD3, hbw⟩
                case measure => simp [intOf]; omega
              · have hSe := HSP.out hc
                obtain ⟨f', HG2⟩ := HN.out _ _ hSe hy1 hyn hk1 (by omega)
                have hAl2 : A.length < 16 := by have := congrArg List.length HG2.eq; simp at this; omega
                have hAl2' : (A.length : Int) < 16 := by omega
                have HG3 := Lib.hid HG2
                have HPP := Lib.hid (pad_push hAl2 (Y : Int))
                have dc : decide (ctZ ((N : Int) - (Y : Int)) (Y : Int) ≤ k') = false := decide_eq_false hc
                have hlt5 := hbk.lt
                have hbk5 := hbk.below hbw hlt5
                have hpl : A.length < (pad A).length := by rw [pad_len hAl]; exact hAl2
                clear HG2 hSe HST HSP HN HDN
                go_wp2_with (go_at_call 43; refine (cwg_any N Y (by omega) (by omega) _).mono ?_; rintro e wq ⟨rfl, hbq⟩; replace hbk5 := hbk5.below hbq (Nat.lt_of_lt_of_le hlt5 hbw.size); replace hbw := hbw.trans (hbq.mono hbw.size); clear hbq; have hcq : wq.cell? ⟨w1.heap.size, A.length, none⟩ = some (.int .i64 (pad A)[A.length]) := (by rw [hbk5.cell A.length, arr_get _ _ hpl]); have hfq : wq.frozen? ⟨w1.heap.size, A.length, none⟩ = false := hbk5.free _)
                go_roundw
                case rel =>
                  have e := hbk5.set A.length (.int .i64 (Y : Int))
                  rw [arr_set, HPP.out] at e
                  exact ⟨(N : Int) - (Y : Int), k', (Y : Int), A ++ [(Y : Int)], f', by go_num, rfl, rfl, by simp, ⟨by omega, by omega⟩, HG3, (hbel.trans (hbw.mono hbel.size)).setCell (by show w.heap.size ≤ w1.heap.size; exact hs1) _, e⟩
                case measure => simp [intOf]; omega
        · obtain rfl : N = 0 := by omega
          have hA := HG.out.stop
          subst hA
          have hil : (Try.prog.info? 45).map (·.size) = some (arr (pad A)).size := by rw [arr_size, pad_len hAl]; exact T_info35
          go_wp2_with (first
            | (go_at_call 44; refine (list_any A HRV.out _).mono ?_; rintro e w4 ⟨a', rfl, ho4, hb4⟩)
            | (refine wpList_load_row rfl 45 (.tmp 6) rfl w1.heap.size rfl 45 (arr (pad A)) (0, 0) _ hbk Try.underlying45 rfl hil ?_))
          go_ret2
          exact ⟨a', A.length, rfl, ho4.lower hbel.size, hbel.trans (hb4.mono hbel.size)⟩
    · have hok : patOk n k = false := patOk_no (fun h => hk ⟨h.2.2.1, h.2.2.2⟩)
      rw [patF_no hok, hok]
      by_cases h0 : k < 0
      · have d3 : decide (k < 0) = true := decide_eq_true h0
        clear hk hok h0
        go_enter Try.func17, Try.ntmps17
        go_wp2_with fail
        go_ret2
        exact ⟨none, 0, rfl, own_nilA _ _ _, Below.refl _ _⟩
      · have d3 : decide (k < 0) = false := decide_eq_false h0
        have d4 : decide (ctZ n n ≤ k) = true := decide_eq_true (by omega)
        clear hk hok h0
        go_enter Try.func17, Try.ntmps17
        go_wp2_with (go_at_call 20; refine (iCountParts_any n _).mono ?_; rintro e w1 ⟨rfl, hb1⟩; rw [HCP.out])
        go_ret2
        exact ⟨none, 0, rfl, own_nilA _ _ _, hb1⟩
  · have hok : patOk n k = false := patOk_no (fun h => hn ⟨h.1, h.2.1⟩)
    rw [patF_no hok, hok]
    by_cases h0 : n < 0
    · have d1 : decide (n < 0) = true := decide_eq_true h0
      clear hn hok h0
      go_enter Try.func17, Try.ntmps17
      go_wp2_with fail
      go_ret2
      exact ⟨none, 0, rfl, own_nilA _ _ _, Below.refl _ _⟩
    · have d1 : decide (n < 0) = false := decide_eq_false h0
      have d2 : decide (16 < n) = true := decide_eq_true (by omega)
      clear hn hok h0
      go_enter Try.func17, Try.ntmps17
      go_wp2_with fail
      go_ret2
      exact ⟨none, 0, rfl, own_nilA _ _ _, Below.refl _ _⟩
end Go.Proofs.Yteglcoalfgjjiaa
