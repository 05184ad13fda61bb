/-
  Walks: the program's summands: link, opposite, isFiner.
-/
import Derived.Test.YtcjnmconehfbgaaW63
import Derived.StillTailTactics
import Derived.RegionTactic
namespace Go.Proofs.Ytcjnmconehfbgaa
open Go.RowKit NP
set_option maxRecDepth 8000
set_option linter.unusedVariables false
theorem i64_of (x : Nat) (h : x < 4611686018427387904) : (BitVec.ofInt 64 (x : Int)).toNat = x := by
  rw [BitVec.ofInt_natCast, BitVec.toNat_ofNat]; exact Nat.mod_eq_of_lt (by omega)
theorem i64_or (a b : Nat) (ha : a < 4611686018427387904) (hb : b < 4611686018427387904) : bits .or .i64 (a : Int) (b : Int) = ((a ||| b : Nat) : Int) := by
  have hx : a ||| b < 2 ^ 62 := Nat.or_lt_two_pow (by omega) (by omega)
  show IntKind.i64.wrap ((BitVec.ofInt 64 (a : Int) ||| BitVec.ofInt 64 (b : Int)).toNat : Int) = _
  rw [BitVec.toNat_or, i64_of a ha, i64_of b hb, IntKind.wrap_i64]
  omega
theorem i64_and (a b : Nat) (ha : a < 4611686018427387904) (hb : b < 4611686018427387904) : bits .and .i64 (a : Int) (b : Int) = ((a &&& b : Nat) : Int) := by
  have hx : a &&& b < 2 ^ 62 := Nat.and_lt_two_pow _ (by omega)
  show IntKind.i64.wrap ((BitVec.ofInt 64 (a : Int) &&& BitVec.ofInt 64 (b : Int)).toNat : Int) = _
  rw [BitVec.toNat_and, i64_of a ha, i64_of b hb, IntKind.wrap_i64]
  omega
theorem or_join {m n : Nat} (x : Nat) (h : m < 2 ^ n) : m ||| x * 2 ^ n = m + 2 ^ n * x := by
  have := Nat.shiftLeft_add_eq_or_of_lt h x
  rw [Nat.shiftLeft_eq] at this
  rw [Nat.or_comm, ← this, Nat.mul_comm]; omega
theorem or_join2 {m n : Nat} (x : Nat) (h0 : 0 < n) (h : m < 2 ^ (n - 1)) : (m + 2 ^ n * x) ||| 2 ^ (n - 1) = m + 2 ^ (n - 1) + 2 ^ n * x := by
  have hp : 2 ^ n = 2 ^ (n - 1) * 2 := by rw [← Nat.pow_succ]; congr 1; omega
  have e1 : (m + 2 ^ n * x) = m ||| (2 * x) * 2 ^ (n - 1) := by rw [or_join _ h, hp, Nat.mul_assoc]
  have e2 : (2 * x) * 2 ^ (n - 1) ||| 2 ^ (n - 1) = (2 * x + 1) * 2 ^ (n - 1) := by
    have h1 := Nat.shiftLeft_add_eq_or_of_lt (i := n) (b := 2 ^ (n - 1)) (by have := Nat.two_pow_pos (n - 1); omega) x
    rw [Nat.shiftLeft_eq, hp] at h1
    have h2 : 2 * x * 2 ^ (n - 1) = x * (2 ^ (n - 1) * 2) := by rw [Nat.mul_comm 2 x, Nat.mul_assoc, Nat.mul_comm 2]
    rw [h2, ← h1, Nat.add_mul, h2]; omega
  rw [e1, Nat.or_assoc, e2, or_join _ h, hp, Nat.mul_add, Nat.mul_assoc]; omega
theorem pow_le16 {n : Nat} (h : n ≤ 16) : 2 ^ n ≤ 65536 := Nat.pow_le_pow_right (n := 2) (by omega) h
theorem shl_nat {m n : Nat} (hm : m < 65536) (h : n ≤ 16) : IntKind.i64.wrap ((m : Int) * 2 ^ n) = ((m * 2 ^ n : Nat) : Int) := by
  have h1 := pow_le16 h
  have h2 : m * 2 ^ n ≤ 65536 * 65536 := Nat.mul_le_mul (by omega) h1
  have e : ((m : Int) * 2 ^ n) = ((m * 2 ^ n : Nat) : Int) := by simp
  rw [e, IntWalk.i64_in _ (by omega)]
def lkN (n m n2 m2 : Nat) (near : Bool) : Nat := m + 2 ^ (n - 1) * (if near = true ∨ n = 0 ∨ n2 = 0 then 0 else 1) + 2 ^ n * m2
theorem link_any (n m n2 m2 : Nat) (near : Bool) (w : World) (h1 : m < 2 ^ (n - 1)) (h2 : m2 < 2 ^ (n2 - 1)) (hs : n + n2 ≤ 16) :
    Calls Try.prog 90 #[.agg #[.int .i64 n, .int .i64 m], .agg #[.int .i64 n2, .int .i64 m2], .bool near] w fun e w' =>
      e = .returned (.agg #[.int .i64 ((n + n2 : Nat) : Int), .int .i64 ((lkN n m n2 m2 near : Nat) : Int)]) ∧ Below w.heap.size w w' := by
  have p1 := pow_le16 (n := n) (by omega)
  have p2 := pow_le16 (n := n2 - 1) (by omega)
  have p3 := pow_le16 (n := n - 1) (by omega)
  have p4 : 2 ^ (n - 1) ≤ 2 ^ n := Nat.pow_le_pow_right (by omega) (by omega)
  have hj := or_join (n := n) m2 (show m < 2 ^ n by omega)
  have hj2 := fun h0 => or_join2 (n := n) m2 h0 h1
  have hx : 2 ^ n * m2 ≤ 65536 * 65536 := Nat.mul_le_mul p1 (by omega)
  obtain ⟨q, hq, e1⟩ : ∃ q : Nat, q = m2 * 2 ^ n ∧ IntKind.i64.wrap ((m2 : Int) * 2 ^ n) = (q : Int) := ⟨_, rfl, shl_nat (by omega) (by omega)⟩
  obtain ⟨s, hs1, e2⟩ : ∃ s : Nat, s = n + n2 ∧ IntKind.i64.wrap ((n : Int) + (n2 : Int)) = (s : Int) := ⟨_, rfl, by rw [IntWalk.i64_in _ (by omega)]; simp⟩
  obtain ⟨o, ho, e3⟩ : ∃ o : Nat, o = m + 2 ^ n * m2 ∧ bits .or .i64 (m : Int) (q : Int) = (o : Int) := ⟨_, rfl, by rw [hq, i64_or _ _ (by omega) (by rw [Nat.mul_comm]; omega), hj]⟩
  have hn : (n : Int) ≤ 16 := by omega
  have HO : Hid (0 < n → bits .or .i64 (o : Int) ((2 ^ (n - 1) : Nat) : Int) = ((m + 2 ^ (n - 1) + 2 ^ n * m2 : Nat) : Int)) := Lib.hid (fun h0 => by rw [i64_or _ _ (by omega) (by omega), ho, hj2 h0])
  have HS := Lib.hid hs1
  have HQ := Lib.hid ho
  have HP := Lib.hid (wrap_pow (show n - 1 ≤ 40 by omega))
  clear p1 p2 p3 p4 hq hs1 hj hj2 hx ho
  go_enter Try.func90, Try.ntmps90
  go_wp2_with fail
  go_region
  have hbl := ((((Below.refl w.heap.size w).alloc (Nat.le_refl _) (.cells #[.int .i64 n, .int .i64 m] 76)).alloc (by simp) (.cells #[.int .i64 n2, .int .i64 m2] 76)).alloc (by simp; omega) (.cells #[.int .i64 0, .int .i64 0] 76)).alloc (by simp; omega) (.cells #[.int .i64 s, .int .i64 o] 76)
  by_cases hz : near = true ∨ n = 0 ∨ n2 = 0
  · have HL : Hid (lkN n m n2 m2 near = o) := Lib.hid (by unfold lkN; rw [if_pos hz, HQ.out]; omega)
    have hz' : near = true ∨ (near = false ∧ n = 0) ∨ (near = false ∧ 0 < n ∧ n2 = 0) := by cases near <;> simp at * <;> omega
    clear hz
    rcases hz' with rfl | ⟨rfl, hz'⟩ | ⟨rfl, h0, hz'⟩
    · go_wp2
      have hbR : Blk ((((w.alloc (.cells #[.int .i64 n, .int .i64 m] 76)).alloc (.cells #[.int .i64 n2, .int .i64 m2] 76)).alloc (.cells #[.int .i64 s, .int .i64 o] 76)).alloc (.cells #[.int .i64 s, .int .i64 o] 76)) (w.heap.size + 1 + 1) 76 #[.int .i64 s, .int .i64 o] := by
        have e := (Blk.new ((w.alloc (.cells #[.int .i64 n, .int .i64 m] 76)).alloc (.cells #[.int .i64 n2, .int .i64 m2] 76)) 76 #[.int .i64 s, .int .i64 o]).alloc (.cells #[.int .i64 s, .int .i64 o] 76)
        rw [World.size_alloc, World.size_alloc] at e
        exact e
      refine bodyPost_ret (results_cell_row rfl _ _ (w.heap.size + 1 + 1) 76 #[.int .i64 s, .int .i64 o] (0, 0) _ rfl hbR.drew Try.underlying76 rfl T_sms) rfl ?_
      exact ⟨by rw [HL.out, HS.out], ((((((Below.refl w.heap.size w).alloc (Nat.le_refl _) _).alloc (by simp) _).alloc (by simp; omega) _).alloc (by simp; omega) _).trans ((Dr.refl _).drewN 1 |>.below _))⟩
    · have hzi : ¬ 0 < n := by omega
      clear hz'
      go_wp2
      have hbR : Blk ((((w.alloc (.cells #[.int .i64 n, .int .i64 m] 76)).alloc (.cells #[.int .i64 n2, .int .i64 m2] 76)).alloc (.cells #[.int .i64 s, .int .i64 o] 76)).alloc (.cells #[.int .i64 s, .int .i64 o] 76)) (w.heap.size + 1 + 1) 76 #[.int .i64 s, .int .i64 o] := by
        have e := (Blk.new ((w.alloc (.cells #[.int .i64 n, .int .i64 m] 76)).alloc (.cells #[.int .i64 n2, .int .i64 m2] 76)) 76 #[.int .i64 s, .int .i64 o]).alloc (.cells #[.int .i64 s, .int .i64 o] 76)
        rw [World.size_alloc, World.size_alloc] at e
        exact e
      refine bodyPost_ret (results_cell_row rfl _ _ (w.heap.size + 1 + 1) 76 #[.int .i64 s, .int .i64 o] (0, 0) _ rfl hbR.drew Try.underlying76 rfl T_sms) rfl ?_
      exact ⟨by rw [HL.out, HS.out], ((((((Below.refl w.heap.size w).alloc (Nat.le_refl _) _).alloc (by simp) _).alloc (by simp; omega) _).alloc (by simp; omega) _).trans ((Dr.refl _).drewN 1 |>.below _))⟩
    · have h0' : (0 : Int) < n := by omega
      have hzi : ¬ 0 < n2 := by omega
      clear hz'
      go_wp2
      have hbR : Blk ((((w.alloc (.cells #[.int .i64 n, .int .i64 m] 76)).alloc (.cells #[.int .i64 n2, .int .i64 m2] 76)).alloc (.cells #[.int .i64 s, .int .i64 o] 76)).alloc (.cells #[.int .i64 s, .int .i64 o] 76)) (w.heap.size + 1 + 1) 76 #[.int .i64 s, .int .i64 o] := by
        have e := (Blk.new ((w.alloc (.cells #[.int .i64 n, .int .i64 m] 76)).alloc (.cells #[.int .i64 n2, .int .i64 m2] 76)) 76 #[.int .i64 s, .int .i64 o]).alloc (.cells #[.int .i64 s, .int .i64 o] 76)
        rw [World.size_alloc, World.size_alloc] at e
        exact e
      refine bodyPost_ret (results_cell_row rfl _ _ (w.heap.size + 1 + 1) 76 #[.int .i64 s, .int .i64 o] (0, 0) _ rfl hbR.drew Try.underlying76 rfl T_sms) rfl ?_
      exact ⟨by rw [HL.out, HS.out], ((((((Below.refl w.heap.size w).alloc (Nat.le_refl _) _).alloc (by simp) _).alloc (by simp; omega) _).alloc (by simp; omega) _).trans ((Dr.refl _).drewN 1 |>.below _))⟩
  · have HL : Hid (lkN n m n2 m2 near = m + 2 ^ (n - 1) + 2 ^ n * m2) := Lib.hid (by unfold lkN; rw [if_neg hz]; omega)
    have hz' : near = false ∧ 0 < n ∧ 0 < n2 := by cases near <;> simp at * <;> omega
    clear hz
    obtain ⟨rfl, h0, h02⟩ := hz'
    have h0' : (0 : Int) < n := by omega
    have h02' : (0 : Int) < n2 := by omega
    go_wp2_with fail
    go_region
    go_wp2_with fail
    have hbR : Blk ((((w.alloc (.cells #[.int .i64 n, .int .i64 m] 76)).alloc (.cells #[.int .i64 n2, .int .i64 m2] 76)).alloc (.cells #[.int .i64 s, .int .i64 (bits .or .i64 (o : Int) (wrap64 (2 ^ (n - 1))))] 76)).alloc (.cells #[.int .i64 s, .int .i64 (bits .or .i64 (o : Int) (wrap64 (2 ^ (n - 1))))] 76)) (w.heap.size + 1 + 1) 76 #[.int .i64 s, .int .i64 (bits .or .i64 (o : Int) (wrap64 (2 ^ (n - 1))))] := by
      have e := (Blk.new ((w.alloc (.cells #[.int .i64 n, .int .i64 m] 76)).alloc (.cells #[.int .i64 n2, .int .i64 m2] 76)) 76 #[.int .i64 s, .int .i64 (bits .or .i64 (o : Int) (wrap64 (2 ^ (n - 1))))]).alloc (.cells #[.int .i64 s, .int .i64 (bits .or .i64 (o : Int) (wrap64 (2 ^ (n - 1))))] 76)
      rw [World.size_alloc, World.size_alloc] at e
      exact e
    refine bodyPost_ret (results_cell_row rfl _ _ (w.heap.size + 1 + 1) 76 #[.int .i64 s, .int .i64 (bits .or .i64 (o : Int) (wrap64 (2 ^ (n - 1))))] (0, 0) _ rfl hbR.drew.drew Try.underlying76 rfl T_sms) rfl ?_
    have e9 : bits .or .i64 (o : Int) (wrap64 (2 ^ (n - 1))) = ((lkN n m n2 m2 false : Nat) : Int) := by rw [HP.out, HL.out, ← HO.out h0]; simp
    exact ⟨by rw [HS.out, e9], ((((((Below.refl w.heap.size w).alloc (Nat.le_refl _) _).alloc (by simp) _).alloc (by simp; omega) _).alloc (by simp; omega) _).trans ((Dr.refl _).drewN 2 |>.below _))⟩
end Go.Proofs.Ytcjnmconehfbgaa
