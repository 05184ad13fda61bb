/-
  Walks of the program: the parts of a kind, and how many they are.
-/
import Derived.Test.YtfcmfjhlmjnjiaaW38
import Derived.Test.YtfcmfjhlmjnjiaaW72
import Derived.Test.YtfcmfjhlmjnjiaaW73
namespace Go.Proofs.Ytfcmfjhlmjnjiaa
open Go.RowKit NP
set_option linter.unusedVariables false
set_option linter.unusedSimpArgs false
theorem kpF_ap (l : List UInt8) (n : Int) : kpF l n = [] ∨ ∃ K, kpF l n = (apF n).filter K := by
  unfold kpF apF
  split
  · rename_i K _
    right
    refine ⟨K, ?_⟩
    split <;> simp
  · exact .inl rfl
theorem cnt_filter (K : List Int → Bool) (l : List (List Int)) : cntLL (l.filter K) ≤ cntLL l := by
  induction l with
  | nil => simp [cntLL]
  | cons x r ih =>
    rw [List.filter_cons]
    split
    · simp [cntLL] at ih ⊢; omega
    · simp [cntLL] at ih ⊢; omega
theorem kpF_few (l : List UInt8) (n : Int) : (kpF l n).length ≤ 1000 := by
  rcases kpF_ap l n with h | ⟨K, h⟩
  · rw [h]; simp
  · rw [h]; exact Nat.le_trans (List.length_filter_le _ _) (apF_few2 n)
theorem kpF_cnt (l : List UInt8) (n : Int) : cntLL (kpF l n) ≤ 2000 := by
  rcases kpF_ap l n with h | ⟨K, h⟩
  · rw [h]; simp [cntLL]
  · rw [h]; exact Nat.le_trans (cnt_filter _ _) (apF_cnt n)
theorem kpF_short (l : List UInt8) (n : Int) : ∀ X ∈ kpF l n, X.length ≤ 4611686018427387904 := by
  intro X hX
  rcases kpF_ap l n with h | ⟨K, h⟩
  · rw [h] at hX; simp at hX
  · rw [h] at hX; exact apF_short2 n X ((List.mem_filter.1 hX).1)
set_option maxRecDepth 4000 in
set_option maxHeartbeats 2000000 in
theorem iKindParts_any (s : ByteArray) (hs : s.size ≤ maxLen) (n : Int) (w : World) :
    Calls Try.prog 10 #[.string s, .int .i64 n] w fun e w' => ∃ (a' : Option Addr) (c' : Nat) (us : List Value), e = .returned (.slice a' (kpF s.data.toList n).length c') ∧ OwnLL w' w.heap.size w'.heap.size 32 3 (.slice a' (kpF s.data.toList n).length c') us (kpF s.data.toList n) ∧ Below w.heap.size w w' := by
  cases hk : kindOf s.data.toList with
  | none =>
    have HF := Lib.hid (kpF_none hk n)
    go_enter Try.func10, Try.ntmps10
    go_wp2_with (go_at_call 33; refine (kindsByName_any _).mono ?_; rintro e w1 ⟨b, n, f, rfl, km, kt, hb1⟩; have kt0 := kt s.data.toList; rw [hk] at kt0; have hlk := km.look_no s hs kt0)
    go_ret
    rw [HF.out]
    exact ⟨none, 0, [], rfl, (OwnLL.nil _ _ _ _).lower hb1.size, hb1⟩
  | some K =>
    by_cases h : 0 ≤ n ∧ n ≤ 12
    · obtain ⟨h1, h2⟩ := h
      obtain ⟨n, rfl⟩ := Int.eq_ofNat_of_zero_le h1
      have hn : n ≤ 12 := by omega
      have HF := Lib.hid (kpF_some hk hn)
      clear h1 h2
      go_enter Try.func10, Try.ntmps10
      go_wp2_with (first
        | (go_at_call 34; refine (listWhere_any n hn _ K _ hKK.out).mono ?_; rintro e w2 ⟨a', c', us, rfl, hLL, hb2⟩; rw [← HF.out] at hLL ⊢)
        | (go_at_call 33; refine (kindsByName_any _).mono ?_; rintro e w1 ⟨b, nn, f, rfl, km, kt, hb1⟩; have kt0 := kt s.data.toList; rw [hk] at kt0; obtain ⟨v, hfv, hik⟩ := kt0; have hKK := Lib.hid hik.isK; obtain ⟨f1, p1, c1, rfl, he1, hK1⟩ := hik.isK; have hlk := km.look_ok s hs hfv; clear hK1))
      go_ret
      exact ⟨a', c', us, rfl, hLL.lower hb1.size, hb1.trans (hb2.mono hb1.size)⟩
    · have HF := Lib.hid (kpF_out (l := s.data.toList) h)
      have HN := Lib.hid h
      clear h
      go_enter Try.func10, Try.ntmps10
      go_wp2_with (first
        | (go_at_call 34; refine (listWhere_no n HN.out _ _).mono ?_; rintro e w2 ⟨rfl, hb2⟩)
        | (go_at_call 33; refine (kindsByName_any _).mono ?_; rintro e w1 ⟨b, nn, f, rfl, km, kt, hb1⟩; have kt0 := kt s.data.toList; rw [hk] at kt0; obtain ⟨v, hfv, hik⟩ := kt0; obtain ⟨f1, p1, c1, rfl, he1, hK1⟩ := hik.isK; have hlk := km.look_ok s hs hfv; clear hK1))
      go_ret
      rw [HF.out]
      have hb := hb1.trans (hb2.mono hb1.size)
      exact ⟨none, 0, [], rfl, (OwnLL.nil _ _ _ _).lower hb.size, hb⟩
set_option maxRecDepth 4000 in
set_option maxHeartbeats 2000000 in
theorem iKindCount_any (s : ByteArray) (hs : s.size ≤ maxLen) (n : Int) (w : World) :
    Calls Try.prog 16 #[.string s, .int .i64 n] w fun e w' => e = .returned (.int .i64 (kcF s.data.toList n)) ∧ Below w.heap.size w w' := by
  cases hk : kindOf s.data.toList with
  | none =>
    have HF := Lib.hid (kcF_none hk n)
    go_enter Try.func16, Try.ntmps16
    go_wp2_with (go_at_call 33; refine (kindsByName_any _).mono ?_; rintro e w1 ⟨b, n, f, rfl, km, kt, hb1⟩; have kt0 := kt s.data.toList; rw [hk] at kt0; have hlk := km.look_no s hs kt0)
    go_ret
    exact ⟨ret_i64 HF.out.symm, hb1⟩
  | some K =>
    by_cases h : 0 ≤ n ∧ n ≤ 12
    · obtain ⟨h1, h2⟩ := h
      obtain ⟨n, rfl⟩ := Int.eq_ofNat_of_zero_le h1
      have hn : n ≤ 12 := by omega
      have HC := Lib.hid (kcF_some hk hn)
      go_enter Try.func16, Try.ntmps16
      go_wp2_with (first
        | (go_at_call 10; refine (iKindParts_any s hs (n : Int) _).mono ?_; rintro e w2 ⟨a', c', us, rfl, hLL, hb2⟩)
        | (go_at_call 33; refine (kindsByName_any _).mono ?_; rintro e w1 ⟨b, nn, f, rfl, km, kt, hb1⟩; have kt0 := kt s.data.toList; rw [hk] at kt0; obtain ⟨v, hfv, hik⟩ := kt0; obtain ⟨f1, p1, c1, rfl, he1, hK1⟩ := hik.isK; have hlk := km.look_ok s hs hfv; clear hK1))
      go_ret
      exact ⟨ret_i64 HC.out.symm, hb1.trans (hb2.mono hb1.size)⟩
    · have HF := Lib.hid (kcF_out (l := s.data.toList) h)
      have HN : Hid (n < 0 ∨ 12 < n) := Lib.hid (by omega)
      by_cases h0 : n < 0
      · clear h
        go_enter Try.func16, Try.ntmps16
        go_wp2_with (go_at_call 33; refine (kindsByName_any _).mono ?_; rintro e w1 ⟨b, nn, f, rfl, km, kt, hb1⟩; have kt0 := kt s.data.toList; rw [hk] at kt0; obtain ⟨v, hfv, hik⟩ := kt0; obtain ⟨f1, p1, c1, rfl, he1, hK1⟩ := hik.isK; have hlk := km.look_ok s hs hfv; clear hK1)
        go_ret
        exact ⟨ret_i64 HF.out.symm, hb1⟩
      · have h12 : 12 < n := by omega
        clear h
        go_enter Try.func16, Try.ntmps16
        go_wp2_with (go_at_call 33; refine (kindsByName_any _).mono ?_; rintro e w1 ⟨b, nn, f, rfl, km, kt, hb1⟩; have kt0 := kt s.data.toList; rw [hk] at kt0; obtain ⟨v, hfv, hik⟩ := kt0; obtain ⟨f1, p1, c1, rfl, he1, hK1⟩ := hik.isK; have hlk := km.look_ok s hs hfv; clear hK1)
        go_ret
        exact ⟨ret_i64 HF.out.symm, hb1⟩
end Go.Proofs.Ytfcmfjhlmjnjiaa
