/-
  Walks: the draws of names of kinds.
-/
import Derived.Test.YtmlomapifldlpaaDoorD1
import Derived.Test.YtmlomapifldlpaaDoorD3a
namespace Go.Proofs.YtmlomapifldlpaaDoor
open Go.RowKit NP
set_option maxRecDepth 100000
set_option linter.unusedVariables false
set_option linter.unusedSimpArgs false
abbrev strs (M : List ByteArray) : List Value := M.map Value.string
theorem of_any (g q B c : Nat) (a : Option Addr) (M : List ByteArray) (bs : List Int) (w : World) (hM : 0 < M.length) (hM2 : M.length ≤ 4294967296) (hq : q ≤ 1000000) (h : Rdr w g bs q) (hr : Rd w B a (strs M)) (hB : ∀ b o, a = some ⟨b, o, none⟩ → b ≠ g) :
    Calls Tryd.prog 23 #[.pointer (some ⟨g, 0, none⟩), .slice a M.length c] w fun e w' => ∃ k, ∃ hk : k < M.length, e = .returned (.string M[k]) ∧ Rdr w' g bs (q + 1) ∧ w.grownBy w' (some g) ∧ w'.heap.size = w.heap.size := by
  go_enter Tryd.func23, Tryd.ntmps23
  go_wp2_with fail
  refine (pick_any g q _ bs _ (by omega) hq h).mono ?_
  rintro e w1 ⟨x, rfl, hx0, hx1, h1, hg1, hs1⟩
  obtain ⟨k, rfl⟩ := Int.eq_ofNat_of_zero_le hx0
  have hk : k < M.length := by have := hx1 (by omega); omega
  obtain ⟨b, o, rfl, hb, hc0⟩ := hr (fun e => by have h9 := congrArg List.length e; rw [List.length_map, List.length_nil] at h9; omega)
  have hc := hc0 k (.string M[k]) (by simp [hk])
  have hlt := World.block_lt_of_cell? _ _ hc
  have hc' : w1.cell? ⟨b, o + k, none⟩ = some (.string M[k]) := (World.cell?_of_block (hg1.block b hlt (by have := hB b o rfl; simpa using this))).trans hc
  clear hx1 hc0
  go_wp2_with fail
  go_ret
  exact ⟨k, hk, rfl, h1, hg1, hs1⟩
def names3 : List ByteArray := [⟨#[]⟩, ⟨#[101, 118, 101, 110]⟩, ⟨#[79, 100, 100]⟩]
def names12 : List ByteArray := [⟨#[111, 100, 100]⟩, ⟨#[100, 105, 115, 116, 105, 110, 99, 116]⟩, ⟨#[115, 101, 108, 102]⟩, ⟨#[100, 105, 115, 116, 105, 110, 99, 116, 111, 100, 100]⟩, ⟨#[110, 111, 116, 116, 104, 114, 101, 101]⟩, ⟨#[116, 119, 105, 99, 101]⟩, ⟨#[103, 97, 112]⟩, ⟨#[102, 105, 118, 101]⟩, ⟨#[103, 97, 112, 111, 110, 101]⟩, ⟨#[102, 105, 118, 101, 116, 119, 111]⟩, ⟨#[115, 99, 104, 117, 114]⟩, ⟨#[115, 105, 120]⟩]
def Name (s : ByteArray) : Prop := s ∈ names3 ∨ s ∈ names12
theorem Name.small {s : ByteArray} (h : Name s) : s.size ≤ 11 := by
  have h3 : ∀ s ∈ names3, s.size ≤ 11 := by decide
  have h12 : ∀ s ∈ names12, s.size ≤ 11 := by decide
  exact h.elim (h3 s) (h12 s)
set_option maxHeartbeats 1000000 in
theorem aName_any (g q : Nat) (bs : List Int) (w : World) (hq : q ≤ 900000) (h : Rdr w g bs q) :
    Calls Tryd.prog 13 #[.pointer (some ⟨g, 0, none⟩)] w fun e w' => ∃ s, e = .returned (.string s) ∧ Name s ∧ Rdr w' g bs (q + 2) ∧ w.grownBy w' (some g) := by
  have hlt := h.lt
  go_enter Tryd.func13, Tryd.ntmps13
  go_wp2_with fail
  refine (pick_any g _ 24 bs _ (by omega) (by omega) h).mono ?_
  rintro e w1 ⟨y, rfl, hp0, hp1, h1, hg1, -⟩
  clear hp1 h
  by_cases y0 : y = 0
  · have b0 : (y == 0) = true := beq_iff_eq.2 y0
    clear y0
    go_wp2_with fail
    have hrd : Rd (w1.alloc (.cells (strs [⟨#[]⟩, ⟨#[101, 118, 101, 110]⟩, ⟨#[79, 100, 100]⟩]).toArray 9)) (w1.heap.size + 1) (some ⟨w1.heap.size, 0, none⟩) (strs [⟨#[]⟩, ⟨#[101, 118, 101, 110]⟩, ⟨#[79, 100, 100]⟩]) := rd_new w1 (strs [⟨#[]⟩, ⟨#[101, 118, 101, 110]⟩, ⟨#[79, 100, 100]⟩]).toArray 9
    refine (of_any g (q + 1) (w1.heap.size + 1) 3 (some ⟨w1.heap.size, 0, none⟩) [⟨#[]⟩, ⟨#[101, 118, 101, 110]⟩, ⟨#[79, 100, 100]⟩] bs (w1.alloc (.cells (strs [⟨#[]⟩, ⟨#[101, 118, 101, 110]⟩, ⟨#[79, 100, 100]⟩]).toArray 9)) (by simp) (by simp) (by omega) (h1.below ((Below.refl _ _).alloc h1.lt _)) hrd (by intro b o e; injection e with e; injection e with e; have := h1.lt; omega)).mono ?_
    rintro e w2 ⟨k, hk, rfl, h2, hg2, -⟩
    have hm : ([⟨#[]⟩, ⟨#[101, 118, 101, 110]⟩, ⟨#[79, 100, 100]⟩] : List ByteArray)[k] ∈ names3 := List.getElem_mem hk
    generalize ([⟨#[]⟩, ⟨#[101, 118, 101, 110]⟩, ⟨#[79, 100, 100]⟩] : List ByteArray)[k] = s at hm ⊢
    go_wp2_with fail
    go_ret
    exact ⟨s, rfl, .inl hm, h2, chg_trans (chg_alloc hg1 _) hg2⟩
  · have b0 : (y == 0) = false := beq_eq_false_iff_ne.2 y0
    clear y0
    go_wp2_with fail
    have hrd : Rd (w1.alloc (.cells (strs [⟨#[111, 100, 100]⟩, ⟨#[100, 105, 115, 116, 105, 110, 99, 116]⟩, ⟨#[115, 101, 108, 102]⟩, ⟨#[100, 105, 115, 116, 105, 110, 99, 116, 111, 100, 100]⟩, ⟨#[110, 111, 116, 116, 104, 114, 101, 101]⟩, ⟨#[116, 119, 105, 99, 101]⟩, ⟨#[103, 97, 112]⟩, ⟨#[102, 105, 118, 101]⟩, ⟨#[103, 97, 112, 111, 110, 101]⟩, ⟨#[102, 105, 118, 101, 116, 119, 111]⟩, ⟨#[115, 99, 104, 117, 114]⟩, ⟨#[115, 105, 120]⟩]).toArray 9)) (w1.heap.size + 1) (some ⟨w1.heap.size, 0, none⟩) (strs [⟨#[111, 100, 100]⟩, ⟨#[100, 105, 115, 116, 105, 110, 99, 116]⟩, ⟨#[115, 101, 108, 102]⟩, ⟨#[100, 105, 115, 116, 105, 110, 99, 116, 111, 100, 100]⟩, ⟨#[110, 111, 116, 116, 104, 114, 101, 101]⟩, ⟨#[116, 119, 105, 99, 101]⟩, ⟨#[103, 97, 112]⟩, ⟨#[102, 105, 118, 101]⟩, ⟨#[103, 97, 112, 111, 110, 101]⟩, ⟨#[102, 105, 118, 101, 116, 119, 111]⟩, ⟨#[115, 99, 104, 117, 114]⟩, ⟨#[115, 105, 120]⟩]) := rd_new w1 (strs [⟨#[111, 100, 100]⟩, ⟨#[100, 105, 115, 116, 105, 110, 99, 116]⟩, ⟨#[115, 101, 108, 102]⟩, ⟨#[100, 105, 115, 116, 105, 110, 99, 116, 111, 100, 100]⟩, ⟨#[110, 111, 116, 116, 104, 114, 101, 101]⟩, ⟨#[116, 119, 105, 99, 101]⟩, ⟨#[103, 97, 112]⟩, ⟨#[102, 105, 118, 101]⟩, ⟨#[103, 97, 112, 111, 110, 101]⟩, ⟨#[102, 105, 118, 101, 116, 119, 111]⟩, ⟨#[115, 99, 104, 117, 114]⟩, ⟨#[115, 105, 120]⟩]).toArray 9
    refine (of_any g (q + 1) (w1.heap.size + 1) 12 (some ⟨w1.heap.size, 0, none⟩) [⟨#[111, 100, 100]⟩, ⟨#[100, 105, 115, 116, 105, 110, 99, 116]⟩, ⟨#[115, 101, 108, 102]⟩, ⟨#[100, 105, 115, 116, 105, 110, 99, 116, 111, 100, 100]⟩, ⟨#[110, 111, 116, 116, 104, 114, 101, 101]⟩, ⟨#[116, 119, 105, 99, 101]⟩, ⟨#[103, 97, 112]⟩, ⟨#[102, 105, 118, 101]⟩, ⟨#[103, 97, 112, 111, 110, 101]⟩, ⟨#[102, 105, 118, 101, 116, 119, 111]⟩, ⟨#[115, 99, 104, 117, 114]⟩, ⟨#[115, 105, 120]⟩] bs (w1.alloc (.cells (strs [⟨#[111, 100, 100]⟩, ⟨#[100, 105, 115, 116, 105, 110, 99, 116]⟩, ⟨#[115, 101, 108, 102]⟩, ⟨#[100, 105, 115, 116, 105, 110, 99, 116, 111, 100, 100]⟩, ⟨#[110, 111, 116, 116, 104, 114, 101, 101]⟩, ⟨#[116, 119, 105, 99, 101]⟩, ⟨#[103, 97, 112]⟩, ⟨#[102, 105, 118, 101]⟩, ⟨#[103, 97, 112, 111, 110, 101]⟩, ⟨#[102, 105, 118, 101, 116, 119, 111]⟩, ⟨#[115, 99, 104, 117, 114]⟩, ⟨#[115, 105, 120]⟩]).toArray 9)) (by simp) (by simp) (by omega) (h1.below ((Below.refl _ _).alloc h1.lt _)) hrd (by intro b o e; injection e with e; injection e with e; have := h1.lt; omega)).mono ?_
    rintro e w2 ⟨k, hk, rfl, h2, hg2, -⟩
    have hm : ([⟨#[111, 100, 100]⟩, ⟨#[100, 105, 115, 116, 105, 110, 99, 116]⟩, ⟨#[115, 101, 108, 102]⟩, ⟨#[100, 105, 115, 116, 105, 110, 99, 116, 111, 100, 100]⟩, ⟨#[110, 111, 116, 116, 104, 114, 101, 101]⟩, ⟨#[116, 119, 105, 99, 101]⟩, ⟨#[103, 97, 112]⟩, ⟨#[102, 105, 118, 101]⟩, ⟨#[103, 97, 112, 111, 110, 101]⟩, ⟨#[102, 105, 118, 101, 116, 119, 111]⟩, ⟨#[115, 99, 104, 117, 114]⟩, ⟨#[115, 105, 120]⟩] : List ByteArray)[k] ∈ names12 := List.getElem_mem hk
    generalize ([⟨#[111, 100, 100]⟩, ⟨#[100, 105, 115, 116, 105, 110, 99, 116]⟩, ⟨#[115, 101, 108, 102]⟩, ⟨#[100, 105, 115, 116, 105, 110, 99, 116, 111, 100, 100]⟩, ⟨#[110, 111, 116, 116, 104, 114, 101, 101]⟩, ⟨#[116, 119, 105, 99, 101]⟩, ⟨#[103, 97, 112]⟩, ⟨#[102, 105, 118, 101]⟩, ⟨#[103, 97, 112, 111, 110, 101]⟩, ⟨#[102, 105, 118, 101, 116, 119, 111]⟩, ⟨#[115, 99, 104, 117, 114]⟩, ⟨#[115, 105, 120]⟩] : List ByteArray)[k] = s at hm ⊢
    go_wp2_with fail
    go_ret
    exact ⟨s, rfl, .inr hm, h2, chg_trans (chg_alloc hg1 _) hg2⟩
set_option maxHeartbeats 1000000 in
theorem DrawKindParts_any (a : Option Addr) (c B : Nat) (bs : List Int) (w : World) (h : Rd w B a (bs.map (Value.int .u8))) (hB : B ≤ w.heap.size) (hb : ∀ n ∈ bs, (Lit.int .u8 n).wf = true) (hl : bs.length ≤ 1048576) (hc : bs.length ≤ c) :
    Calls Tryd.prog 15 #[.slice a bs.length c] w fun e w' => ∃ s x, e = .returned (.tuple #[.string s, .int .i64 x]) ∧ Name s ∧ (-1000 ≤ x ∧ x ≤ 1000) ∧ Below w.heap.size w w' := by
  go_enter Tryd.func15, Tryd.ntmps15
  go_wp2_with fail
  refine (newReader_any _ _ B bs _ h hB hb hl hc).mono ?_
  rintro e w1 ⟨rfl, h1, hb1, hz1⟩
  clear h hB hb hl hc
  go_wp2_with fail
  refine (aName_any _ 0 _ _ (by omega) h1).mono ?_
  rintro e w2 ⟨s, rfl, hs, h2, hg2⟩
  have hA2 := hb1.trans ((Chg.of hg2 (Nat.le_refl _)).below (by omega))
  have hz2 := hA2.size
  clear h1 hg2 hb1
  go_wp2_with fail
  refine (one_any _ _ _ _ _ [6, 8, 5, 4, 7, 3, 10, 2, 12, 1, 0, 9, 13, -1] _ _ (by simp) (by simp) (by omega) (h2.below ((Below.refl _ _).alloc h2.lt _)) (rd_new w2 _ _) (by intro b o e; injection e with e; injection e with e; have := h2.lt; omega)).mono ?_
  rintro e w3 ⟨k, hk, rfl, h3, hg3, -⟩
  have hx : ∀ x ∈ ([6, 8, 5, 4, 7, 3, 10, 2, 12, 1, 0, 9, 13, -1] : List Int), -1000 ≤ x ∧ x ≤ 1000 := by decide
  have hx1 := hx _ (List.getElem_mem hk)
  generalize ([6, 8, 5, 4, 7, 3, 10, 2, 12, 1, 0, 9, 13, -1] : List Int)[k] = x at hx1 ⊢
  have hA3 := (hA2.alloc hz2 (.cells (ints [6, 8, 5, 4, 7, 3, 10, 2, 12, 1, 0, 9, 13, -1]).toArray 3)).trans ((Chg.of hg3 (Nat.le_refl _)).below (by simp; omega))
  clear hk hx hg3 h3 hA2 h2
  go_wp2_with fail
  go_ret2
  exact ⟨s, x, rfl, hs, hx1, hA3⟩
theorem DrawKindCount_any (a : Option Addr) (c B : Nat) (bs : List Int) (w : World) (h : Rd w B a (bs.map (Value.int .u8))) (hB : B ≤ w.heap.size) (hb : ∀ n ∈ bs, (Lit.int .u8 n).wf = true) (hl : bs.length ≤ 1048576) (hc : bs.length ≤ c) :
    Calls Tryd.prog 9 #[.slice a bs.length c] w fun e w' => ∃ s x, e = .returned (.tuple #[.string s, .int .i64 x]) ∧ Name s ∧ (-1000 ≤ x ∧ x ≤ 1000) ∧ Below w.heap.size w w' := by
  go_enter Tryd.func9, Tryd.ntmps9
  go_wp2_with fail
  refine (DrawKindParts_any a c B bs w h hB hb hl hc).mono ?_
  rintro e w1 ⟨s, x, rfl, hs, hx, hA⟩
  clear h hB hb hl hc
  go_wp2_with fail
  go_ret2
  exact ⟨s, x, rfl, hs, hx, hA⟩
theorem DrawPartnerOf_any (a : Option Addr) (c B : Nat) (bs : List Int) (w : World) (h : Rd w B a (bs.map (Value.int .u8))) (hB : B ≤ w.heap.size) (hb : ∀ n ∈ bs, (Lit.int .u8 n).wf = true) (hl : bs.length ≤ 1048576) (hc : bs.length ≤ c) :
    Calls Tryd.prog 8 #[.slice a bs.length c] w fun e w' => ∃ s, e = .returned (.string s) ∧ Name s ∧ Below w.heap.size w w' := by
  go_enter Tryd.func8, Tryd.ntmps8
  go_wp2_with fail
  refine (newReader_any _ _ B bs _ h hB hb hl hc).mono ?_
  rintro e w1 ⟨rfl, h1, hb1, hz1⟩
  clear h hB hb hl hc
  go_wp2_with fail
  refine (aName_any _ 0 _ _ (by omega) h1).mono ?_
  rintro e w2 ⟨s, rfl, hs, h2, hg2⟩
  have hA2 := hb1.trans ((Chg.of hg2 (Nat.le_refl _)).below (by omega))
  go_wp2_with fail
  go_ret
  exact ⟨s, rfl, hs, hA2⟩
end Go.Proofs.YtmlomapifldlpaaDoor
