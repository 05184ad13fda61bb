/-
  Walks: piles in a box, of the program and of the model.
-/
import Derived.Test.YtgdkifpjcjegpaaW81a
import Derived.Test.YtgdkifpjcjegpaaW84
import Derived.Test.YtgdkifpjcjegpaaM41
namespace Go.Proofs.Ytgdkifpjcjegpaa
open Go.RowKit NP
set_option linter.unusedVariables false
set_option linter.unusedSimpArgs false
def limC (a b c : Int) : Bool := limB a b && decide (0 ≤ c ∧ c ≤ 4)
theorem limC_iff {a b c : Int} : limC a b c = true ↔ (0 ≤ a ∧ a ≤ 4) ∧ (0 ≤ b ∧ b ≤ 4) ∧ 0 ≤ c ∧ c ≤ 4 := by
  unfold limC limB
  simp only [Bool.and_eq_true, decide_eq_true_eq]
  constructor <;> (intro h; omega)
theorem bpF_out {a b c : Int} (h : limC a b c = false) : bpF a b c = -1 := by
  unfold bpF
  rw [if_neg]
  intro hh
  rw [limC_iff.2 hh] at h
  cases h
theorem common_any (a0 b0 : Nat) (ha : a0 ≤ 2305843009213693952) (hb : b0 ≤ 2305843009213693952) (w : World) :
    Calls Try.prog 23 #[.int .i64 a0, .int .i64 b0] w fun e w' => e = .returned (.int .i64 (Nat.gcd a0 b0 : Nat)) ∧ w' = w := by
  go_enter Try.func23, Try.ntmps23
  go_wp2_with fail
  go_loop [0, 1] (fun va vb => ∃ x y : Nat, va = .int .i64 x ∧ vb = .int .i64 y ∧ x ≤ 2305843009213693952 ∧ y ≤ 2305843009213693952 ∧ Hid (Nat.gcd x y = Nat.gcd a0 b0)) (fun _ vb => (intOf vb).toNat)
  case atStart => exact ⟨a0, b0, rfl, rfl, ha, hb, Lib.hid rfl⟩
  case round =>
    obtain ⟨x, y, rfl, rfl, hx, hy, HG⟩ := hrel
    by_cases h0 : 0 < y
    · have h0' : (0 : Int) < (y : Int) := by omega
      have hlt := Nat.mod_lt x h0
      obtain ⟨r, hr⟩ : ∃ r : Nat, r = x % y := ⟨_, rfl⟩
      have hmod : (x : Int).tmod (y : Int) = (r : Int) := by rw [hr, Int.tmod_eq_emod_of_nonneg (by omega)]; exact (Int.natCast_emod x y).symm
      have hmod2 : (x : Int) % (y : Int) = (r : Int) := by rw [hr]; exact (Int.natCast_emod x y).symm
      have HR : Hid (Nat.gcd y r = Nat.gcd a0 b0) := Lib.hid (by rw [← HG.out, hr, Nat.gcd_comm y, ← Nat.gcd_rec, Nat.gcd_comm])
      rw [← hr] at hlt
      clear hr HG
      go_wp2_with fail
      go_round
      case rel => exact ⟨y, r, rfl, rfl, hy, by omega, HR⟩
      case measure => simp [intOf]; omega
    · obtain rfl : y = 0 := by omega
      have HG' : Hid (((Nat.gcd a0 b0 : Nat) : Int) = (x : Int)) := Lib.hid (by rw [← HG.out, Nat.gcd_zero_right])
      go_wp2_with fail
      go_ret
      exact ⟨ret_i64 HG'.out.symm, rfl⟩
set_option maxHeartbeats 2000000 in
theorem sBoxPiles_any (a b c : Int) (w : World) :
    Calls Try.prog 9 #[.int .i64 a, .int .i64 b, .int .i64 c] w fun e w' => e = .returned (.int .i64 (bpF a b c)) ∧ w = w' := by
  cases hl : limC a b c with
  | false =>
    rw [bpF_out hl]
    cases hlb : limB a b with
    | false =>
      have HB := Lib.hid (fun w => validBox_any a b w)
      rw [hlb] at HB
      clear hl hlb
      go_enter Try.func9, Try.ntmps9
      go_wp2_with (go_at_call 21; refine (HB.out _).mono ?_; rintro e w1 ⟨rfl, rfl⟩)
      go_ret
      exact ⟨rfl, rfl⟩
    | true =>
      have HB := Lib.hid (fun w => validBox_any a b w)
      rw [hlb] at HB
      have H : Hid (c < 0 ∨ 4 < c) := Lib.hid (by
        unfold limC at hl
        rw [hlb, Bool.true_and] at hl
        have := of_decide_eq_false hl
        omega)
      clear hl hlb
      go_enter Try.func9, Try.ntmps9
      go_wp2_with (first
        | (go_at_call 22; refine (rngNo _ _ _ _ H.out).mono ?_; rintro e w1 ⟨rfl, rfl⟩)
        | (go_at_call 21; refine (HB.out _).mono ?_; rintro e w1 ⟨rfl, rfl⟩))
      go_ret
      exact ⟨rfl, rfl⟩
  | true =>
    obtain ⟨⟨ha0, ha4⟩, ⟨hb0, hb4⟩, hc0, hc4⟩ := limC_iff.1 hl
    have hlb : limB a b = true := by unfold limC at hl; rw [Bool.and_eq_true] at hl; exact hl.1
    have HB := Lib.hid (fun w => validBox_any a b w)
    rw [hlb] at HB
    have HF : Hid (bpF a b c = (smA b.toNat c.toNat a.toNat).1 / (smA b.toNat c.toNat a.toNat).2) := Lib.hid (by unfold bpF; rw [if_pos ⟨⟨ha0, ha4⟩, ⟨hb0, hb4⟩, hc0, hc4⟩, sm_bp _ (by omega) _ (by omega) _ (by omega)])
    rw [HF.out]
    clear HF hl hlb
    obtain ⟨a, rfl⟩ := Int.eq_ofNat_of_zero_le ha0
    obtain ⟨b, rfl⟩ := Int.eq_ofNat_of_zero_le hb0
    obtain ⟨c, rfl⟩ := Int.eq_ofNat_of_zero_le hc0
    simp only [Int.toNat_natCast]
    have ha : a ≤ 4 := by omega
    have hb : b ≤ 4 := by omega
    have hc : c ≤ 4 := by omega
    have HC := Lib.hid (And.intro hc0 hc4)
    clear ha0 ha4 hb0 hb4 hc0 hc4
    go_enter Try.func9, Try.ntmps9
    go_wp2_with (first
      | (go_at_call 22; refine (rngYes _ _ _ _ HC.out.1 HC.out.2).mono ?_; rintro e w1 ⟨rfl, rfl⟩)
      | (go_at_call 21; refine (HB.out _).mono ?_; rintro e w1 ⟨rfl, rfl⟩))
    go_loop [7, 8, 9] (fun vu vd vi => ∃ i : Nat, i ≤ a ∧ vi = .int .i64 ((i : Int) + 1) ∧ vu = .int .i64 (smA b c i).1 ∧ vd = .int .i64 (smA b c i).2) (fun _ _ vi => 20 - (intOf vi).toNat)
    case atStart => exact ⟨0, Nat.zero_le _, rfl, rfl, rfl⟩
    case round =>
      obtain ⟨i, hi, rfl, rfl, rfl⟩ := hrel
      by_cases hlt : i < a
      · have hlt' : (i : Int) + 1 ≤ (a : Int) := by omega
        have HT : Hid (smA b c (i + 1) = smR c i (smA b c i) b) := Lib.hid rfl
        go_wp2_with fail
        go_loop [7, 8, 10] (fun vu vd vk => ∃ k : Nat, k ≤ b ∧ vk = .int .i64 ((k : Int) + 1) ∧ vu = .int .i64 (smR c i (smA b c i) k).1 ∧ vd = .int .i64 (smR c i (smA b c i) k).2) (fun _ _ vk => 20 - (intOf vk).toNat)
        case atStart => exact ⟨0, Nat.zero_le _, rfl, rfl, rfl⟩
        case round =>
          obtain ⟨k, hk, rfl, rfl, rfl⟩ := hrel
          by_cases hlk : k < b
          · have hlk' : (k : Int) + 1 ≤ (b : Int) := by omega
            have hst := sm_step (b := b) (c := c) (i := i) (k := k) (by omega) (by omega) (by omega) (by omega)
            have HN : Hid (smR c i (smA b c i) (k + 1) = smS c i k (smR c i (smA b c i) k)) := Lib.hid rfl
            have hsm := sm_all b (by omega) c (by omega) i (by omega) k (by omega)
            obtain ⟨s, hs⟩ : ∃ s, s = smR c i (smA b c i) k := ⟨_, rfl⟩
            rw [← hs] at hst HN hsm ⊢
            obtain ⟨⟨hu0, hu1⟩, hd0, hd1⟩ := hst
            obtain ⟨u, hu⟩ : ∃ u, u = s.1 * ((i : Int) + 1 + ((k : Int) + 1) + (c : Int) - 1) := ⟨_, rfl⟩
            obtain ⟨d, hd⟩ : ∃ d, d = s.2 * ((i : Int) + 1 + ((k : Int) + 1) - 1) := ⟨_, rfl⟩
            have HU : Hid (smS c i k s = (u / (Nat.gcd u.toNat d.toNat : Int), d / (Nat.gcd u.toNat d.toNat : Int))) := Lib.hid (by rw [hu, hd]; rfl)
            rw [← hu] at hu0 hu1
            rw [← hd] at hd0 hd1
            have e1 : wrap64 (s.1 * ((i : Int) + 1 + ((k : Int) + 1) + (c : Int) - 1)) = u := by rw [← hu]; exact IntWalk.wrap64_in _ (by omega)
            have e2 : IntKind.i64.wrap (s.1 * ((i : Int) + 1 + ((k : Int) + 1) + (c : Int) - 1)) = u := by rw [← hu]; exact IntWalk.i64_in _ (by omega)
            have e3 : wrap64 (s.2 * ((i : Int) + 1 + ((k : Int) + 1) - 1)) = d := by rw [← hd]; exact IntWalk.wrap64_in _ (by omega)
            have e4 : IntKind.i64.wrap (s.2 * ((i : Int) + 1 + ((k : Int) + 1) - 1)) = d := by rw [← hd]; exact IntWalk.i64_in _ (by omega)
            clear hu hd hs
            obtain ⟨U, rfl⟩ := Int.eq_ofNat_of_zero_le (show 0 ≤ u by omega)
            obtain ⟨D, rfl⟩ := Int.eq_ofNat_of_zero_le (show 0 ≤ d by omega)
            simp only [Int.toNat_natCast] at HU
            have hg0 : 0 < Nat.gcd U D := Nat.gcd_pos_of_pos_left _ (by omega)
            have hgl : Nat.gcd U D ≤ U := Nat.gcd_le_left _ (by omega)
            have HG := Lib.hid (fun w => common_any U D (by omega) (by omega) w)
            obtain ⟨g, hg⟩ : ∃ g, g = Nat.gcd U D := ⟨_, rfl⟩
            rw [← hg] at hg0 hgl HU HG
            have q1 : (U : Int).tdiv (g : Int) = ((U / g : Nat) : Int) := by rw [Int.tdiv_eq_ediv_of_nonneg (by omega)]; rfl
            have q2 : (D : Int).tdiv (g : Int) = ((D / g : Nat) : Int) := by rw [Int.tdiv_eq_ediv_of_nonneg (by omega)]; rfl
            have hq1 : U / g ≤ U := Nat.div_le_self _ _
            have hq2 : D / g ≤ D := Nat.div_le_self _ _
            have HX : Hid (smS c i k s = (((U / g : Nat) : Int), ((D / g : Nat) : Int))) := HU
            have hgz : ((g : Int) == 0) = false := beq_eq_false_iff_ne.2 (by omega)
            have hgz2 : ¬ ((g : Int) = 0) := by omega
            have hgz3 : ¬ (g = 0) := by omega
            clear hg HU
            obtain ⟨x, hx⟩ : ∃ x : Nat, x = U / g := ⟨_, rfl⟩
            obtain ⟨y, hy⟩ : ∃ y : Nat, y = D / g := ⟨_, rfl⟩
            rw [← hx] at q1 hq1 HX
            rw [← hy] at q2 hq2 HX
            have q3 : (U : Int) / (g : Int) = (x : Int) := by rw [hx]; rfl
            have q4 : (D : Int) / (g : Int) = (y : Int) := by rw [hy]; rfl
            clear hx hy
            go_wp2_with (go_at_call 23; refine (HG.out _).mono ?_; rintro e w1 ⟨rfl, rfl⟩)
            go_round
            case rel => exact ⟨k + 1, by omega, by go_num, by rw [HN.out, HX.out], by rw [HN.out, HX.out]⟩
            case measure => simp [intOf]; omega
          · obtain rfl : k = b := by omega
            have hlk' : (k : Int) < (k : Int) + 1 := by omega
            rw [← HT.out]
            go_wp2_with fail
            go_round
            case rel => exact ⟨i + 1, by omega, by go_num, rfl, rfl⟩
            case measure => simp [intOf]; omega
      · obtain rfl : i = a := by omega
        have hlt' : (i : Int) < (i : Int) + 1 := by omega
        have hsm := sm_all b (by omega) c (by omega) i (by omega) 0 (by omega)
        rw [show smR c i (smA b c i) 0 = smA b c i from rfl] at hsm
        obtain ⟨s, hs⟩ : ∃ s, s = smA b c i := ⟨_, rfl⟩
        rw [← hs] at hsm ⊢
        obtain ⟨⟨h1, h2⟩, h3, h4⟩ := hsm
        obtain ⟨x, y⟩ := s
        simp only at h1 h2 h3 h4 ⊢
        have q1 : x.tdiv y = x / y := Int.tdiv_eq_ediv_of_nonneg (by omega)
        have hq0 : 0 ≤ x / y := Int.ediv_nonneg (by omega) (by omega)
        have hq1 : x / y ≤ x := Int.ediv_le_self _ (by omega)
        have hyz : (y == 0) = false := beq_eq_false_iff_ne.2 (by omega)
        have hyz2 : ¬ (y = 0) := by omega
        have HE : Hid ((smA b c i).1 / (smA b c i).2 = x / y) := Lib.hid (by rw [← hs])
        clear hs
        go_wp2_with fail
        go_ret
        exact ⟨ret_i64 HE.out.symm, rfl⟩
theorem tallIn_any (a b c : Int) (w : World) :
    Calls Try.prog 65 #[.agg #[.int .i64 a, .int .i64 b, .int .i64 c]] w fun e w' => e = .returned (.bool (limC a b c)) ∧ Below w.heap.size w w' := by
  have HL := Lib.hid (fun w => isInLimits_any a b w)
  have hA := (Below.refl w.heap.size w).alloc (Nat.le_refl _) (.cells #[.int .i64 a, .int .i64 b, .int .i64 c] 41)
  have hb0 := Blk.new w 41 #[.int .i64 a, .int .i64 b, .int .i64 c]
  cases hlb : limB a b with
  | false =>
    have HE : Hid (limC a b c = false) := Lib.hid (by unfold limC; rw [hlb]; rfl)
    rw [hlb] at HL
    rw [HE.out]
    clear hlb
    go_enter Try.func65, Try.ntmps65
    go_wp2_with (go_at_call 64; refine (HL.out _).mono ?_; rintro e w1 ⟨rfl, hb⟩; have hA1 := hA.trans (hb.mono hA.size))
    go_ret
    exact ⟨rfl, hA1⟩
  | true =>
    rw [hlb] at HL
    by_cases h1 : 0 ≤ c
    · have d1 : decide (0 ≤ c) = true := decide_eq_true h1
      by_cases h2 : c ≤ 4
      · have d2 : decide (c ≤ 4) = true := decide_eq_true h2
        have HE : Hid (limC a b c = true) := Lib.hid (by unfold limC; rw [hlb, decide_eq_true (And.intro h1 h2)]; rfl)
        rw [HE.out]
        clear hlb
        go_enter Try.func65, Try.ntmps65
        go_wp2_with (go_at_call 64; refine (HL.out _).mono ?_; rintro e w1 ⟨rfl, hb⟩; have hA1 := hA.trans (hb.mono hA.size); have hc1 : w1.cell? ⟨w.heap.size, 2, none⟩ = some (.int .i64 c) := (hb.cell (p := ⟨w.heap.size, 2, none⟩) (by simp)).trans (by rw [hb0.cell 2]; rfl))
        go_ret
        exact ⟨rfl, hA1⟩
      · have d2 : decide (c ≤ 4) = false := decide_eq_false h2
        have HE : Hid (limC a b c = false) := Lib.hid (by unfold limC; rw [hlb, decide_eq_false (by omega)]; rfl)
        rw [HE.out]
        clear hlb
        go_enter Try.func65, Try.ntmps65
        go_wp2_with (go_at_call 64; refine (HL.out _).mono ?_; rintro e w1 ⟨rfl, hb⟩; have hA1 := hA.trans (hb.mono hA.size); have hc1 : w1.cell? ⟨w.heap.size, 2, none⟩ = some (.int .i64 c) := (hb.cell (p := ⟨w.heap.size, 2, none⟩) (by simp)).trans (by rw [hb0.cell 2]; rfl))
        go_ret
        exact ⟨rfl, hA1⟩
    · have d1 : decide (0 ≤ c) = false := decide_eq_false h1
      have HE : Hid (limC a b c = false) := Lib.hid (by unfold limC; rw [hlb, decide_eq_false (by omega)]; rfl)
      rw [HE.out]
      clear hlb
      go_enter Try.func65, Try.ntmps65
      go_wp2_with (go_at_call 64; refine (HL.out _).mono ?_; rintro e w1 ⟨rfl, hb⟩; have hA1 := hA.trans (hb.mono hA.size); have hc1 : w1.cell? ⟨w.heap.size, 2, none⟩ = some (.int .i64 c) := (hb.cell (p := ⟨w.heap.size, 2, none⟩) (by simp)).trans (by rw [hb0.cell 2]; rfl))
      go_ret
      exact ⟨rfl, hA1⟩
set_option maxHeartbeats 1000000 in
theorem tallCount_any (a b c : Nat) (ha : a ≤ 4) (hb : b ≤ 4) (hc : c ≤ 4) (w : World) :
    Calls Try.prog 36 #[.agg #[.int .i64 a, .int .i64 b, .int .i64 c]] w fun e w' => e = .returned (.int .i64 ((bpA b c a).1 / (bpA b c a).2)) ∧ Below w.heap.size w w' := by
  have hA := (Below.refl w.heap.size w).alloc (Nat.le_refl _) (.cells #[.int .i64 a, .int .i64 b, .int .i64 c] 41)
  have hb0 := Blk.new w 41 #[.int .i64 a, .int .i64 b, .int .i64 c]
  obtain ⟨W, hW⟩ : ∃ W, W = w.alloc (.cells #[.int .i64 a, .int .i64 b, .int .i64 c] 41) := ⟨_, rfl⟩
  have hc1 : W.cell? ⟨w.heap.size, 1, none⟩ = some (.int .i64 b) := by rw [hW, hb0.cell 1]; rfl
  have hc2 : W.cell? ⟨w.heap.size, 2, none⟩ = some (.int .i64 c) := by rw [hW, hb0.cell 2]; rfl
  have hA' : Below w.heap.size w W := by rw [hW]; exact hA
  clear hb0 hA
  go_enter Try.func36, Try.ntmps36
  go_wp2_with fail
  rw [← hW]
  clear hW
  go_loop [3, 4, 10] (fun vu vd vi => ∃ i : Nat, i ≤ a ∧ vi = .int .i64 i ∧ vu = .int .i64 (bpA b c i).1 ∧ vd = .int .i64 (bpA b c i).2) (fun _ _ vi => 20 - (intOf vi).toNat)
  case atStart => exact ⟨0, Nat.zero_le _, rfl, rfl, rfl⟩
  case round =>
    obtain ⟨i, hi, rfl, rfl, rfl⟩ := hrel
    by_cases hlt : i < a
    · have hlt' : (i : Int) < (a : Int) := by omega
      have HT : Hid (bpA b c (i + 1) = bpR c i (bpA b c i) b) := Lib.hid rfl
      go_wp2_with fail
      go_loop [3, 4, 16] (fun vu vd vk => ∃ k : Nat, k ≤ b ∧ vk = .int .i64 k ∧ vu = .int .i64 (bpR c i (bpA b c i) k).1 ∧ vd = .int .i64 (bpR c i (bpA b c i) k).2) (fun _ _ vk => 20 - (intOf vk).toNat)
      case atStart => exact ⟨0, Nat.zero_le _, rfl, rfl, rfl⟩
      case round =>
        obtain ⟨k, hk, rfl, rfl, rfl⟩ := hrel
        by_cases hlk : k < b
        · have hlk' : (k : Int) < (b : Int) := by omega
          have hsn := bp_all b (by omega) c (by omega) i (by omega) (k + 1) (by omega)
          have HN : Hid (bpR c i (bpA b c i) (k + 1) = ((bpR c i (bpA b c i) k).1 * ((i : Int) + k + 1 + c), (bpR c i (bpA b c i) k).2 * ((i : Int) + k + 1))) := Lib.hid rfl
          rw [HN.out] at hsn
          obtain ⟨s, hs⟩ : ∃ s, s = bpR c i (bpA b c i) k := ⟨_, rfl⟩
          rw [← hs] at HN hsn ⊢
          obtain ⟨⟨hu0, hu1⟩, hd0, hd1⟩ := hsn
          simp only at hu0 hu1 hd0 hd1
          obtain ⟨u, hu⟩ : ∃ u, u = s.1 * ((i : Int) + (k : Int) + 1 + (c : Int)) := ⟨_, rfl⟩
          obtain ⟨d, hd⟩ : ∃ d, d = s.2 * ((i : Int) + (k : Int) + 1) := ⟨_, rfl⟩
          rw [← hu] at hu0 hu1 HN
          rw [← hd] at hd0 hd1 HN
          have e1 : wrap64 (s.1 * ((i : Int) + (k : Int) + 1 + (c : Int))) = u := by rw [← hu]; exact IntWalk.wrap64_in _ (by omega)
          have e2 : IntKind.i64.wrap (s.1 * ((i : Int) + (k : Int) + 1 + (c : Int))) = u := by rw [← hu]; exact IntWalk.i64_in _ (by omega)
          have e3 : wrap64 (s.2 * ((i : Int) + (k : Int) + 1)) = d := by rw [← hd]; exact IntWalk.wrap64_in _ (by omega)
          have e4 : IntKind.i64.wrap (s.2 * ((i : Int) + (k : Int) + 1)) = d := by rw [← hd]; exact IntWalk.i64_in _ (by omega)
          clear hu hd hs
          go_wp2_with fail
          go_round
          case rel => exact ⟨k + 1, by omega, by go_num, by rw [HN.out], by rw [HN.out]⟩
          case measure => simp [intOf]; omega
        · obtain rfl : k = b := by omega
          have hlk' : (k : Int) ≤ (k : Int) := Int.le_refl _
          rw [← HT.out]
          go_wp2_with fail
          go_round
          case rel => exact ⟨i + 1, by omega, by go_num, rfl, rfl⟩
          case measure => simp [intOf]; omega
    · obtain rfl : i = a := by omega
      have hlt' : (i : Int) ≤ (i : Int) := Int.le_refl _
      have hsm : (1 ≤ (bpA b c i).1 ∧ (bpA b c i).1 ≤ 1152921504606846976) ∧ 1 ≤ (bpA b c i).2 ∧ (bpA b c i).2 ≤ 1152921504606846976 := by
        cases i with
        | zero => simp [bpA]
        | succ i => exact bp_all b (by omega) c (by omega) i (by omega) b (by omega)
      obtain ⟨s, hs⟩ : ∃ s, s = bpA b c i := ⟨_, rfl⟩
      rw [← hs] at hsm ⊢
      obtain ⟨⟨h1, h2⟩, h3, h4⟩ := hsm
      obtain ⟨x, y⟩ := s
      simp only at h1 h2 h3 h4 ⊢
      have q1 : x.tdiv y = x / y := Int.tdiv_eq_ediv_of_nonneg (by omega)
      have hq0 : 0 ≤ x / y := Int.ediv_nonneg (by omega) (by omega)
      have hq1 : x / y ≤ x := Int.ediv_le_self _ (by omega)
      have hyz : (y == 0) = false := beq_eq_false_iff_ne.2 (by omega)
      have hyz2 : ¬ (y = 0) := by omega
      have HE : Hid ((bpA b c i).1 / (bpA b c i).2 = x / y) := Lib.hid (by rw [← hs])
      clear hs
      go_wp2_with fail
      go_ret
      exact ⟨ret_i64 HE.out.symm, hA'⟩
theorem ta_box (v : Value) (w : World) : (Instr.typeAssert (.iface 41 v) 59 41 true).run Try.prog w = .ok (.tuple #[v, .bool true]) w := by kernel_rfl
theorem ta_box_no (v : Value) (w : World) : (Instr.typeAssert (.iface 41 v) 59 52 true).run Try.prog w = .ok (.tuple #[.int .i64 0, .bool false]) w := by kernel_rfl
theorem ta_box_no2 (v : Value) (w : World) : (Instr.typeAssert (.iface 41 v) 59 54 true).run Try.prog w = .ok (.tuple #[.int .i64 0, .bool false]) w := by kernel_rfl
theorem T_tall : (Try.prog.info? 41).map (·.size) = some 3 := by kernel_rfl
theorem countOfBox_any (a b c : Int) (w : World) : Calls Try.prog 24 #[.iface 41 (.agg #[.int .i64 a, .int .i64 b, .int .i64 c])] w fun e w' => e = .returned (.int .i64 (bpF a b c)) ∧ Below w.heap.size w w' := by
  have HIN := Lib.hid (fun w => tallIn_any a b c w)
  cases hl : limC a b c with
  | false =>
    rw [bpF_out hl]
    rw [hl] at HIN
    clear hl
    go_enter Try.func24, Try.ntmps24
    go_wp2_with (go_at_call 65; refine (HIN.out _).mono ?_; rintro e w1 ⟨rfl, hb⟩)
    go_ret
    exact ⟨rfl, hb⟩
  | true =>
    rw [hl] at HIN
    obtain ⟨⟨ha0, ha4⟩, ⟨hb0, hb4⟩, hc0, hc4⟩ := limC_iff.1 hl
    have HF : Hid (bpF a b c = (bpA b.toNat c.toNat a.toNat).1 / (bpA b.toNat c.toNat a.toNat).2) := Lib.hid (by unfold bpF; rw [if_pos ⟨⟨ha0, ha4⟩, ⟨hb0, hb4⟩, hc0, hc4⟩])
    rw [HF.out]
    clear HF hl
    obtain ⟨a, rfl⟩ := Int.eq_ofNat_of_zero_le ha0
    obtain ⟨b, rfl⟩ := Int.eq_ofNat_of_zero_le hb0
    obtain ⟨c, rfl⟩ := Int.eq_ofNat_of_zero_le hc0
    simp only [Int.toNat_natCast]
    have HC := Lib.hid (fun w => tallCount_any a b c (by omega) (by omega) (by omega) w)
    clear ha0 ha4 hb0 hb4 hc0 hc4
    have t1 := ta_box
    have t2 := ta_box_no
    have t3 := ta_box_no2
    go_enter Try.func24, Try.ntmps24
    go_wp2_with (first
      | (go_at_call 36; refine (HC.out _).mono ?_; rintro e w2 ⟨rfl, hb2⟩)
      | (go_at_call 65; refine (HIN.out _).mono ?_; rintro e w1 ⟨rfl, hb⟩; have hnew := Blk.new w1 41 #[.int .i64 0, .int .i64 0, .int .i64 0])
      | (refine wpList_store_row rfl 41 (.tmp 5) (.tmp 25) rfl w1.heap.size rfl #[.int .i64 a, .int .i64 b, .int .i64 c] rfl 41 _ hnew T_tall rfl (by simp; rfl) ?_; have hrow := hnew.row (vs := #[Value.int .i64 (a : Int), Value.int .i64 (b : Int), Value.int .i64 (c : Int)]))
      | (refine wpList_load_row rfl 41 (.tmp 5) rfl w1.heap.size rfl 41 #[.int .i64 a, .int .i64 b, .int .i64 c] (0, 0) _ hrow Try.underlying41 rfl T_tall ?_))
    go_ret
    have hA := hb.alloc hb.size (.cells #[.int .i64 (a : Int), .int .i64 (b : Int), .int .i64 (c : Int)] 41)
    exact ⟨rfl, hA.trans (hb2.mono hA.size)⟩
theorem iBoxPiles_any (a b c : Int) (w : World) :
    Calls Try.prog 10 #[.int .i64 a, .int .i64 b, .int .i64 c] w fun e w' => e = .returned (.int .i64 (bpF a b c)) ∧ Below w.heap.size w w' := by
  go_enter Try.func10, Try.ntmps10
  go_wp2_with (go_at_call 24; refine (countOfBox_any a b c _).mono ?_; rintro e w1 ⟨rfl, hb⟩)
  go_ret
  exact ⟨rfl, hb⟩
end Go.Proofs.Ytgdkifpjcjegpaa
