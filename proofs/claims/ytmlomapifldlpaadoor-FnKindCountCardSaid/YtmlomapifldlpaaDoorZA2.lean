/-
  Walks: the drawing of parts: newReader, sumFor, partsOf, goodParts, bent, someParts: whatever is drawn is a short list of small numbers in new memory. Walks: the draws of names of kinds. Walks: the kind with as many parts (program and model). Walks: the methods of a diagram: sum, count, durfee, list, conjugate. Walks: the exported functions of chapter 1 on one list of numbers, of the model (spec) and of the program (impl): valid, sum, conjugate, durfee. Plain mathematics of times and corners.
-/
import Derived.Test.YtmlomapifldlpaaDoorZA1
import Derived.Test.YtmlomapifldlpaaDoorChecked
import Derived.Deep.MidRow
import Derived.KernelRfl
import Derived.Lib.Hide
import Derived.WalkKit
import Derived.ProofKit
namespace Go.Proofs.YtmlomapifldlpaaDoor
open Go.RowKit NP
set_option maxRecDepth 8000
set_option linter.unusedVariables false

def Small (M : List Int) : Prop := M.length ≤ 40 ∧ ∀ x ∈ M, -1 ≤ x ∧ x ≤ 17
def SmallParts (M : List Int) : Prop := M.length ≤ 16 ∧ ∀ x ∈ M, 1 ≤ x ∧ x ≤ 16

theorem insK_len (M : List Int) (x : Int) : (insK M x).length = M.length + 1 := by
  unfold insK; simp; omega
theorem insK_mem {M : List Int} {x y : Int} (h : y ∈ insK M x) : y = x ∨ y ∈ M := by
  unfold insK at h
  simp at h
  rcases h with h | h | h
  · exact .inr (List.mem_of_mem_take h)
  · exact .inl h
  · exact .inr (List.mem_of_mem_drop h)
theorem fold_ins (L : List Int) : ∀ M, (L.foldl insK M).length = L.length + M.length ∧ ∀ y ∈ L.foldl insK M, y ∈ L ∨ y ∈ M := by
  induction L with
  | nil => intro M; exact ⟨by simp, fun y hy => .inr hy⟩
  | cons x r ih =>
    intro M
    simp only [List.foldl_cons]
    have h := ih (insK M x)
    refine ⟨by rw [h.1, insK_len]; simp; omega, fun y hy => ?_⟩
    rcases h.2 y hy with h1 | h1
    · exact .inl (by simp [h1])
    · rcases insK_mem h1 with rfl | h2
      · exact .inl (by simp)
      · exact .inr h2
theorem mrg_small {L : List Int} (h : SmallParts L) : SmallParts (mrg L) := by
  have hf := fold_ins L []
  refine ⟨by unfold mrg; rw [hf.1]; simpa using h.1, fun x hx => ?_⟩
  rcases hf.2 x hx with h1 | h1
  · exact h.2 x h1
  · simp at h1




theorem below_push' {g : Nat} {w0 w w1 : World} {o : Obj} {row : Option Nat} (hb : Below g w0 w) (hB : g < w.heap.size) (hg : (w.alloc o).grownBy w1 row) (hr : ∀ k, row = some k → g ≤ k) : Below g w0 w1 :=
  (hb.alloc (by omega) o).grown hg (by simp; omega) hr

/-- what a draw of parts leaves -/
def Drawn (g : Nat) (bs : List Int) (P : List Int → Prop) (top : Nat) (w : World) (e : Ending) (w' : World) : Prop :=
  ∃ a' c' M, e = .returned (.slice a' M.length c') ∧ Own w' w.heap.size w'.heap.size 3 (.slice a' M.length c') (ints M) ∧ P M ∧ (∃ q', q' ≤ top ∧ Rdr w' g bs q') ∧ w.grownBy w' (some g)


/-- but for block g, nothing below lo has turned -/
structure Chg (g lo : Nat) (w w' : World) : Prop where
  os : w'.os = w.os
  tape : w'.tape = w.tape
  output : w'.output = w.output
  size : w.heap.size ≤ w'.heap.size
  block : ∀ k, k < lo → k ≠ g → w'.heap[k]? = w.heap[k]?
theorem Chg.trans {g lo : Nat} {a b c : World} (h : Chg g lo a b) (k : Chg g lo b c) : Chg g lo a c :=
  ⟨k.os.trans h.os, k.tape.trans h.tape, k.output.trans h.output, Nat.le_trans h.size k.size, fun i hi hne => (k.block i hi hne).trans (h.block i hi hne)⟩
theorem Chg.of {g lo : Nat} {w w' : World} (h : w.grownBy w' (some g)) (hlo : lo ≤ w.heap.size) : Chg g lo w w' :=
  ⟨h.os, h.tape, h.output, h.size, fun k hk hne => h.block k (by omega) (fun e => by injection e with e; exact hne e)⟩
theorem Chg.ofBelow {g lo : Nat} {w w' : World} (h : Below lo w w') : Chg g lo w w' := ⟨h.os, h.tape, h.output, h.size, fun k hk _ => h.block k hk⟩
theorem Chg.below {g lo : Nat} {w w' : World} (h : Chg g lo w w') (hg : g ≤ lo) : Below g w w' := ⟨h.os, h.tape, h.output, h.size, fun k hk => h.block k (by omega) (by omega)⟩
theorem Chg.grown {g : Nat} {w w' : World} (h : Chg g w.heap.size w w') : w.grownBy w' (some g) := ⟨h.os, h.tape, h.output, h.size, fun k hk hne => h.block k hk (fun e => hne (by rw [e]))⟩
theorem Chg.push {g lo : Nat} {w0 w w1 : World} {o : Obj} {row : Option Nat} (hb : Chg g lo w0 w) (hB : lo ≤ w.heap.size) (hg : (w.alloc o).grownBy w1 row) (hr : ∀ k, row = some k → lo ≤ k) : Chg g lo w0 w1 :=
  hb.trans (.ofBelow (((Below.refl lo w).alloc hB o).grown hg (by simp; omega) hr))














end Go.Proofs.YtmlomapifldlpaaDoor
namespace Go.Proofs.YtmlomapifldlpaaDoor
open Go.RowKit NP
set_option maxRecDepth 100000
set_option linter.unusedVariables false
set_option linter.unusedSimpArgs false
abbrev strs (M : List ByteArray) : List Value := M.map Value.string
theorem of_any (g q B c : Nat) (a : Option Addr) (M : List ByteArray) (bs : List Int) (w : World) (hM : 0 < M.length) (hM2 : M.length ≤ 4294967296) (hq : q ≤ 1000000) (h : Rdr w g bs q) (hr : Rd w B a (strs M)) (hB : ∀ b o, a = some ⟨b, o, none⟩ → b ≠ g) :
    Calls Tryd.prog 23 #[.pointer (some ⟨g, 0, none⟩), .slice a M.length c] w fun e w' => ∃ k, ∃ hk : k < M.length, e = .returned (.string M[k]) ∧ Rdr w' g bs (q + 1) ∧ w.grownBy w' (some g) ∧ w'.heap.size = w.heap.size := by
  go_enter Tryd.func23, Tryd.ntmps23
  go_wp2_with fail
  refine (pick_any g q _ bs _ (by omega) hq h).mono ?_
  rintro e w1 ⟨x, rfl, hx0, hx1, h1, hg1, hs1⟩
  obtain ⟨k, rfl⟩ := Int.eq_ofNat_of_zero_le hx0
  have hk : k < M.length := by have := hx1 (by omega); omega
  obtain ⟨b, o, rfl, hb, hc0⟩ := hr (fun e => by have h9 := congrArg List.length e; rw [List.length_map, List.length_nil] at h9; omega)
  have hc := hc0 k (.string M[k]) (by simp [hk])
  have hlt := World.block_lt_of_cell? _ _ hc
  have hc' : w1.cell? ⟨b, o + k, none⟩ = some (.string M[k]) := (World.cell?_of_block (hg1.block b hlt (by have := hB b o rfl; simpa using this))).trans hc
  clear hx1 hc0
  go_wp2_with fail
  go_ret
  exact ⟨k, hk, rfl, h1, hg1, hs1⟩
def names3 : List ByteArray := [⟨#[]⟩, ⟨#[101, 118, 101, 110]⟩, ⟨#[79, 100, 100]⟩]
def names12 : List ByteArray := [⟨#[111, 100, 100]⟩, ⟨#[100, 105, 115, 116, 105, 110, 99, 116]⟩, ⟨#[115, 101, 108, 102]⟩, ⟨#[100, 105, 115, 116, 105, 110, 99, 116, 111, 100, 100]⟩, ⟨#[110, 111, 116, 116, 104, 114, 101, 101]⟩, ⟨#[116, 119, 105, 99, 101]⟩, ⟨#[103, 97, 112]⟩, ⟨#[102, 105, 118, 101]⟩, ⟨#[103, 97, 112, 111, 110, 101]⟩, ⟨#[102, 105, 118, 101, 116, 119, 111]⟩, ⟨#[115, 99, 104, 117, 114]⟩, ⟨#[115, 105, 120]⟩]
def Name (s : ByteArray) : Prop := s ∈ names3 ∨ s ∈ names12
theorem Name.small {s : ByteArray} (h : Name s) : s.size ≤ 11 := by
  have h3 : ∀ s ∈ names3, s.size ≤ 11 := by decide
  have h12 : ∀ s ∈ names12, s.size ≤ 11 := by decide
  exact h.elim (h3 s) (h12 s)
set_option maxHeartbeats 1000000 in
theorem aName_any (g q : Nat) (bs : List Int) (w : World) (hq : q ≤ 900000) (h : Rdr w g bs q) :
    Calls Tryd.prog 13 #[.pointer (some ⟨g, 0, none⟩)] w fun e w' => ∃ s, e = .returned (.string s) ∧ Name s ∧ Rdr w' g bs (q + 2) ∧ w.grownBy w' (some g) := by
  have hlt := h.lt
  go_enter Tryd.func13, Tryd.ntmps13
  go_wp2_with fail
  refine (pick_any g _ 24 bs _ (by omega) (by omega) h).mono ?_
  rintro e w1 ⟨y, rfl, hp0, hp1, h1, hg1, -⟩
  clear hp1 h
  by_cases y0 : y = 0
  · have b0 : (y == 0) = true := beq_iff_eq.2 y0
    clear y0
    go_wp2_with fail
    have hrd : Rd (w1.alloc (.cells (strs [⟨#[]⟩, ⟨#[101, 118, 101, 110]⟩, ⟨#[79, 100, 100]⟩]).toArray 9)) (w1.heap.size + 1) (some ⟨w1.heap.size, 0, none⟩) (strs [⟨#[]⟩, ⟨#[101, 118, 101, 110]⟩, ⟨#[79, 100, 100]⟩]) := rd_new w1 (strs [⟨#[]⟩, ⟨#[101, 118, 101, 110]⟩, ⟨#[79, 100, 100]⟩]).toArray 9
    refine (of_any g (q + 1) (w1.heap.size + 1) 3 (some ⟨w1.heap.size, 0, none⟩) [⟨#[]⟩, ⟨#[101, 118, 101, 110]⟩, ⟨#[79, 100, 100]⟩] bs (w1.alloc (.cells (strs [⟨#[]⟩, ⟨#[101, 118, 101, 110]⟩, ⟨#[79, 100, 100]⟩]).toArray 9)) (by simp) (by simp) (by omega) (h1.below ((Below.refl _ _).alloc h1.lt _)) hrd (by intro b o e; injection e with e; injection e with e; have := h1.lt; omega)).mono ?_
    rintro e w2 ⟨k, hk, rfl, h2, hg2, -⟩
    have hm : ([⟨#[]⟩, ⟨#[101, 118, 101, 110]⟩, ⟨#[79, 100, 100]⟩] : List ByteArray)[k] ∈ names3 := List.getElem_mem hk
    generalize ([⟨#[]⟩, ⟨#[101, 118, 101, 110]⟩, ⟨#[79, 100, 100]⟩] : List ByteArray)[k] = s at hm ⊢
    go_wp2_with fail
    go_ret
    exact ⟨s, rfl, .inl hm, h2, chg_trans (chg_alloc hg1 _) hg2⟩
  · have b0 : (y == 0) = false := beq_eq_false_iff_ne.2 y0
    clear y0
    go_wp2_with fail
    have hrd : Rd (w1.alloc (.cells (strs [⟨#[111, 100, 100]⟩, ⟨#[100, 105, 115, 116, 105, 110, 99, 116]⟩, ⟨#[115, 101, 108, 102]⟩, ⟨#[100, 105, 115, 116, 105, 110, 99, 116, 111, 100, 100]⟩, ⟨#[110, 111, 116, 116, 104, 114, 101, 101]⟩, ⟨#[116, 119, 105, 99, 101]⟩, ⟨#[103, 97, 112]⟩, ⟨#[102, 105, 118, 101]⟩, ⟨#[103, 97, 112, 111, 110, 101]⟩, ⟨#[102, 105, 118, 101, 116, 119, 111]⟩, ⟨#[115, 99, 104, 117, 114]⟩, ⟨#[115, 105, 120]⟩]).toArray 9)) (w1.heap.size + 1) (some ⟨w1.heap.size, 0, none⟩) (strs [⟨#[111, 100, 100]⟩, ⟨#[100, 105, 115, 116, 105, 110, 99, 116]⟩, ⟨#[115, 101, 108, 102]⟩, ⟨#[100, 105, 115, 116, 105, 110, 99, 116, 111, 100, 100]⟩, ⟨#[110, 111, 116, 116, 104, 114, 101, 101]⟩, ⟨#[116, 119, 105, 99, 101]⟩, ⟨#[103, 97, 112]⟩, ⟨#[102, 105, 118, 101]⟩, ⟨#[103, 97, 112, 111, 110, 101]⟩, ⟨#[102, 105, 118, 101, 116, 119, 111]⟩, ⟨#[115, 99, 104, 117, 114]⟩, ⟨#[115, 105, 120]⟩]) := rd_new w1 (strs [⟨#[111, 100, 100]⟩, ⟨#[100, 105, 115, 116, 105, 110, 99, 116]⟩, ⟨#[115, 101, 108, 102]⟩, ⟨#[100, 105, 115, 116, 105, 110, 99, 116, 111, 100, 100]⟩, ⟨#[110, 111, 116, 116, 104, 114, 101, 101]⟩, ⟨#[116, 119, 105, 99, 101]⟩, ⟨#[103, 97, 112]⟩, ⟨#[102, 105, 118, 101]⟩, ⟨#[103, 97, 112, 111, 110, 101]⟩, ⟨#[102, 105, 118, 101, 116, 119, 111]⟩, ⟨#[115, 99, 104, 117, 114]⟩, ⟨#[115, 105, 120]⟩]).toArray 9
    refine (of_any g (q + 1) (w1.heap.size + 1) 12 (some ⟨w1.heap.size, 0, none⟩) [⟨#[111, 100, 100]⟩, ⟨#[100, 105, 115, 116, 105, 110, 99, 116]⟩, ⟨#[115, 101, 108, 102]⟩, ⟨#[100, 105, 115, 116, 105, 110, 99, 116, 111, 100, 100]⟩, ⟨#[110, 111, 116, 116, 104, 114, 101, 101]⟩, ⟨#[116, 119, 105, 99, 101]⟩, ⟨#[103, 97, 112]⟩, ⟨#[102, 105, 118, 101]⟩, ⟨#[103, 97, 112, 111, 110, 101]⟩, ⟨#[102, 105, 118, 101, 116, 119, 111]⟩, ⟨#[115, 99, 104, 117, 114]⟩, ⟨#[115, 105, 120]⟩] bs (w1.alloc (.cells (strs [⟨#[111, 100, 100]⟩, ⟨#[100, 105, 115, 116, 105, 110, 99, 116]⟩, ⟨#[115, 101, 108, 102]⟩, ⟨#[100, 105, 115, 116, 105, 110, 99, 116, 111, 100, 100]⟩, ⟨#[110, 111, 116, 116, 104, 114, 101, 101]⟩, ⟨#[116, 119, 105, 99, 101]⟩, ⟨#[103, 97, 112]⟩, ⟨#[102, 105, 118, 101]⟩, ⟨#[103, 97, 112, 111, 110, 101]⟩, ⟨#[102, 105, 118, 101, 116, 119, 111]⟩, ⟨#[115, 99, 104, 117, 114]⟩, ⟨#[115, 105, 120]⟩]).toArray 9)) (by simp) (by simp) (by omega) (h1.below ((Below.refl _ _).alloc h1.lt _)) hrd (by intro b o e; injection e with e; injection e with e; have := h1.lt; omega)).mono ?_
    rintro e w2 ⟨k, hk, rfl, h2, hg2, -⟩
    have hm : ([⟨#[111, 100, 100]⟩, ⟨#[100, 105, 115, 116, 105, 110, 99, 116]⟩, ⟨#[115, 101, 108, 102]⟩, ⟨#[100, 105, 115, 116, 105, 110, 99, 116, 111, 100, 100]⟩, ⟨#[110, 111, 116, 116, 104, 114, 101, 101]⟩, ⟨#[116, 119, 105, 99, 101]⟩, ⟨#[103, 97, 112]⟩, ⟨#[102, 105, 118, 101]⟩, ⟨#[103, 97, 112, 111, 110, 101]⟩, ⟨#[102, 105, 118, 101, 116, 119, 111]⟩, ⟨#[115, 99, 104, 117, 114]⟩, ⟨#[115, 105, 120]⟩] : List ByteArray)[k] ∈ names12 := List.getElem_mem hk
    generalize ([⟨#[111, 100, 100]⟩, ⟨#[100, 105, 115, 116, 105, 110, 99, 116]⟩, ⟨#[115, 101, 108, 102]⟩, ⟨#[100, 105, 115, 116, 105, 110, 99, 116, 111, 100, 100]⟩, ⟨#[110, 111, 116, 116, 104, 114, 101, 101]⟩, ⟨#[116, 119, 105, 99, 101]⟩, ⟨#[103, 97, 112]⟩, ⟨#[102, 105, 118, 101]⟩, ⟨#[103, 97, 112, 111, 110, 101]⟩, ⟨#[102, 105, 118, 101, 116, 119, 111]⟩, ⟨#[115, 99, 104, 117, 114]⟩, ⟨#[115, 105, 120]⟩] : List ByteArray)[k] = s at hm ⊢
    go_wp2_with fail
    go_ret
    exact ⟨s, rfl, .inr hm, h2, chg_trans (chg_alloc hg1 _) hg2⟩
set_option maxHeartbeats 1000000 in
theorem DrawKindParts_any (a : Option Addr) (c B : Nat) (bs : List Int) (w : World) (h : Rd w B a (bs.map (Value.int .u8))) (hB : B ≤ w.heap.size) (hb : ∀ n ∈ bs, (Lit.int .u8 n).wf = true) (hl : bs.length ≤ 1048576) (hc : bs.length ≤ c) :
    Calls Tryd.prog 15 #[.slice a bs.length c] w fun e w' => ∃ s x, e = .returned (.tuple #[.string s, .int .i64 x]) ∧ Name s ∧ (-1000 ≤ x ∧ x ≤ 1000) ∧ Below w.heap.size w w' := by
  go_enter Tryd.func15, Tryd.ntmps15
  go_wp2_with fail
  refine (newReader_any _ _ B bs _ h hB hb hl hc).mono ?_
  rintro e w1 ⟨rfl, h1, hb1, hz1⟩
  clear h hB hb hl hc
  go_wp2_with fail
  refine (aName_any _ 0 _ _ (by omega) h1).mono ?_
  rintro e w2 ⟨s, rfl, hs, h2, hg2⟩
  have hA2 := hb1.trans ((Chg.of hg2 (Nat.le_refl _)).below (by omega))
  have hz2 := hA2.size
  clear h1 hg2 hb1
  go_wp2_with fail
  refine (one_any _ _ _ _ _ [6, 8, 5, 4, 7, 3, 10, 2, 12, 1, 0, 9, 13, -1] _ _ (by simp) (by simp) (by omega) (h2.below ((Below.refl _ _).alloc h2.lt _)) (rd_new w2 _ _) (by intro b o e; injection e with e; injection e with e; have := h2.lt; omega)).mono ?_
  rintro e w3 ⟨k, hk, rfl, h3, hg3, -⟩
  have hx : ∀ x ∈ ([6, 8, 5, 4, 7, 3, 10, 2, 12, 1, 0, 9, 13, -1] : List Int), -1000 ≤ x ∧ x ≤ 1000 := by decide
  have hx1 := hx _ (List.getElem_mem hk)
  generalize ([6, 8, 5, 4, 7, 3, 10, 2, 12, 1, 0, 9, 13, -1] : List Int)[k] = x at hx1 ⊢
  have hA3 := (hA2.alloc hz2 (.cells (ints [6, 8, 5, 4, 7, 3, 10, 2, 12, 1, 0, 9, 13, -1]).toArray 3)).trans ((Chg.of hg3 (Nat.le_refl _)).below (by simp; omega))
  clear hk hx hg3 h3 hA2 h2
  go_wp2_with fail
  go_ret2
  exact ⟨s, x, rfl, hs, hx1, hA3⟩
theorem DrawKindCount_any (a : Option Addr) (c B : Nat) (bs : List Int) (w : World) (h : Rd w B a (bs.map (Value.int .u8))) (hB : B ≤ w.heap.size) (hb : ∀ n ∈ bs, (Lit.int .u8 n).wf = true) (hl : bs.length ≤ 1048576) (hc : bs.length ≤ c) :
    Calls Tryd.prog 9 #[.slice a bs.length c] w fun e w' => ∃ s x, e = .returned (.tuple #[.string s, .int .i64 x]) ∧ Name s ∧ (-1000 ≤ x ∧ x ≤ 1000) ∧ Below w.heap.size w w' := by
  go_enter Tryd.func9, Tryd.ntmps9
  go_wp2_with fail
  refine (DrawKindParts_any a c B bs w h hB hb hl hc).mono ?_
  rintro e w1 ⟨s, x, rfl, hs, hx, hA⟩
  clear h hB hb hl hc
  go_wp2_with fail
  go_ret2
  exact ⟨s, x, rfl, hs, hx, hA⟩
theorem DrawPartnerOf_any (a : Option Addr) (c B : Nat) (bs : List Int) (w : World) (h : Rd w B a (bs.map (Value.int .u8))) (hB : B ≤ w.heap.size) (hb : ∀ n ∈ bs, (Lit.int .u8 n).wf = true) (hl : bs.length ≤ 1048576) (hc : bs.length ≤ c) :
    Calls Tryd.prog 8 #[.slice a bs.length c] w fun e w' => ∃ s, e = .returned (.string s) ∧ Name s ∧ Below w.heap.size w w' := by
  go_enter Tryd.func8, Tryd.ntmps8
  go_wp2_with fail
  refine (newReader_any _ _ B bs _ h hB hb hl hc).mono ?_
  rintro e w1 ⟨rfl, h1, hb1, hz1⟩
  clear h hB hb hl hc
  go_wp2_with fail
  refine (aName_any _ 0 _ _ (by omega) h1).mono ?_
  rintro e w2 ⟨s, rfl, hs, h2, hg2⟩
  have hA2 := hb1.trans ((Chg.of hg2 (Nat.le_refl _)).below (by omega))
  go_wp2_with fail
  go_ret
  exact ⟨s, rfl, hs, hA2⟩
end Go.Proofs.YtmlomapifldlpaaDoor
namespace Go.Proofs.YtmlomapifldlpaaDoor
open Go.RowKit
set_option maxRecDepth 8000
set_option linter.unusedVariables false
set_option linter.unusedSimpArgs false
def nmL : List (List UInt8) := [[111, 100, 100], [100, 105, 115, 116, 105, 110, 99, 116], [115, 101, 108, 102], [100, 105, 115, 116, 105, 110, 99, 116, 111, 100, 100], [110, 111, 116, 116, 104, 114, 101, 101], [116, 119, 105, 99, 101], [103, 97, 112], [102, 105, 118, 101], [103, 97, 112, 111, 110, 101], [102, 105, 118, 101, 116, 119, 111], [115, 99, 104, 117, 114], [115, 105, 120]]
def pnCells : List Value := [.string ⟨#[111, 100, 100]⟩, .string ⟨#[100, 105, 115, 116, 105, 110, 99, 116]⟩, .string ⟨#[115, 101, 108, 102]⟩, .string ⟨#[100, 105, 115, 116, 105, 110, 99, 116, 111, 100, 100]⟩, .string ⟨#[110, 111, 116, 116, 104, 114, 101, 101]⟩, .string ⟨#[116, 119, 105, 99, 101]⟩, .string ⟨#[103, 97, 112]⟩, .string ⟨#[102, 105, 118, 101]⟩, .string ⟨#[103, 97, 112, 111, 110, 101]⟩, .string ⟨#[102, 105, 118, 101, 116, 119, 111]⟩, .string ⟨#[115, 99, 104, 117, 114]⟩, .string ⟨#[115, 105, 120]⟩]
/-- the partner's name -/
def pnF (l : List UInt8) : List UInt8 := match nmL.findIdx? (fun x => x == l) with
  | some k => nmL.getD (k + 1 - 2 * (k % 2)) []
  | none => []
def pnS (s : ByteArray) : ByteArray := ⟨(pnF s.data.toList).toArray⟩
theorem pnF_none {l : List UInt8} (h : ∀ j, j < 12 → nmL.getD j [] ≠ l) : pnF l = [] := by
  have h0 : nmL.findIdx? (fun x => x == l) = none := by
    rw [List.findIdx?_eq_none_iff]
    intro x hx
    obtain ⟨j, hj, rfl⟩ := List.getElem_of_mem hx
    have h1 := h j hj
    rw [List.getD_eq_getElem?_getD, List.getElem?_eq_getElem hj] at h1
    simpa using h1
  unfold pnF
  rw [h0]
theorem toList_of {s : ByteArray} {l : List UInt8} (h : s.data.toList = l) : s.toList = l := by rw [ByteArray.toList_eq]; exact h
theorem beq_yes {s : ByteArray} {l : List UInt8} (h : s.data.toList = l) : (s.toList == l) = true := by rw [toList_of h]; simp
theorem beq_no {s : ByteArray} {l : List UInt8} (h : s.data.toList ≠ l) : (s.toList == l) = false := by rw [ByteArray.toList_eq]; exact beq_eq_false_iff_ne.2 h
theorem beq_yes' {s : ByteArray} {l : List UInt8} (h : s.data.toList = l) : (l == s.toList) = true := by rw [toList_of h]; simp
theorem beq_no' {s : ByteArray} {l : List UInt8} (h : s.data.toList ≠ l) : (l == s.toList) = false := by rw [ByteArray.toList_eq]; exact beq_eq_false_iff_ne.2 (fun e => h e.symm)
set_option maxRecDepth 100000 in
set_option maxHeartbeats 4000000 in
theorem sPartnerOf_any (s : ByteArray) (hs : s.size ≤ 1048576) (w : World) : Calls Tryd.prog 6 #[.string s] w fun e w' => e = .returned (.string (pnS s)) ∧ Below w.heap.size w w' := by
  have hb := Blk.new w 9 pnCells.toArray
  have hA : Below w.heap.size w (w.alloc (.cells pnCells.toArray 9)) := (Below.refl _ _).alloc (Nat.le_refl _) _
  obtain ⟨w1, hw1⟩ : ∃ w1, w.alloc (.cells pnCells.toArray 9) = w1 := ⟨_, rfl⟩
  have hw1' : w.alloc (.cells #[.string ⟨#[111, 100, 100]⟩, .string ⟨#[100, 105, 115, 116, 105, 110, 99, 116]⟩, .string ⟨#[115, 101, 108, 102]⟩, .string ⟨#[100, 105, 115, 116, 105, 110, 99, 116, 111, 100, 100]⟩, .string ⟨#[110, 111, 116, 116, 104, 114, 101, 101]⟩, .string ⟨#[116, 119, 105, 99, 101]⟩, .string ⟨#[103, 97, 112]⟩, .string ⟨#[102, 105, 118, 101]⟩, .string ⟨#[103, 97, 112, 111, 110, 101]⟩, .string ⟨#[102, 105, 118, 101, 116, 119, 111]⟩, .string ⟨#[115, 99, 104, 117, 114]⟩, .string ⟨#[115, 105, 120]⟩] 9) = w1 := hw1
  rw [hw1] at hb hA
  have c0 : w1.cell? ⟨w.heap.size, 0, none⟩ = some (.string ⟨#[111, 100, 100]⟩) := by rw [hb.cell 0]; rfl
  have c1 : w1.cell? ⟨w.heap.size, 1, none⟩ = some (.string ⟨#[100, 105, 115, 116, 105, 110, 99, 116]⟩) := by rw [hb.cell 1]; rfl
  have c2 : w1.cell? ⟨w.heap.size, 2, none⟩ = some (.string ⟨#[115, 101, 108, 102]⟩) := by rw [hb.cell 2]; rfl
  have c3 : w1.cell? ⟨w.heap.size, 3, none⟩ = some (.string ⟨#[100, 105, 115, 116, 105, 110, 99, 116, 111, 100, 100]⟩) := by rw [hb.cell 3]; rfl
  have c4 : w1.cell? ⟨w.heap.size, 4, none⟩ = some (.string ⟨#[110, 111, 116, 116, 104, 114, 101, 101]⟩) := by rw [hb.cell 4]; rfl
  have c5 : w1.cell? ⟨w.heap.size, 5, none⟩ = some (.string ⟨#[116, 119, 105, 99, 101]⟩) := by rw [hb.cell 5]; rfl
  have c6 : w1.cell? ⟨w.heap.size, 6, none⟩ = some (.string ⟨#[103, 97, 112]⟩) := by rw [hb.cell 6]; rfl
  have c7 : w1.cell? ⟨w.heap.size, 7, none⟩ = some (.string ⟨#[102, 105, 118, 101]⟩) := by rw [hb.cell 7]; rfl
  have c8 : w1.cell? ⟨w.heap.size, 8, none⟩ = some (.string ⟨#[103, 97, 112, 111, 110, 101]⟩) := by rw [hb.cell 8]; rfl
  have c9 : w1.cell? ⟨w.heap.size, 9, none⟩ = some (.string ⟨#[102, 105, 118, 101, 116, 119, 111]⟩) := by rw [hb.cell 9]; rfl
  have c10 : w1.cell? ⟨w.heap.size, 10, none⟩ = some (.string ⟨#[115, 99, 104, 117, 114]⟩) := by rw [hb.cell 10]; rfl
  have c11 : w1.cell? ⟨w.heap.size, 11, none⟩ = some (.string ⟨#[115, 105, 120]⟩) := by rw [hb.cell 11]; rfl
  clear hb hw1
  go_enter Tryd.func6, Tryd.ntmps6
  go_wp2_with fail
  try rw [hw1']
  go_loopw [4] (fun ii wr => ∃ i : Nat, ii = .int .i64 (i : Int) ∧ i ≤ 12 ∧ wr = w1 ∧ Hid (∀ j, j < i → nmL.getD j [] ≠ s.data.toList)) (fun ii _ => 20 - (intOf ii).toNat)
  case atStart => exact ⟨0, rfl, Nat.zero_le _, rfl, Lib.hid (fun j hj => by omega)⟩
  case round =>
    obtain ⟨i, rfl, hi, rfl, HN⟩ := hrel
    rcases (by omega : i = 0 ∨ i = 1 ∨ i = 2 ∨ i = 3 ∨ i = 4 ∨ i = 5 ∨ i = 6 ∨ i = 7 ∨ i = 8 ∨ i = 9 ∨ i = 10 ∨ i = 11 ∨ i = 12) with rfl | rfl | rfl | rfl | rfl | rfl | rfl | rfl | rfl | rfl | rfl | rfl | rfl
    · by_cases e1 : s.data.toList = [111, 100, 100]
      · have q1 := beq_yes' e1
        have HP : Hid (pnS s = ⟨#[100, 105, 115, 116, 105, 110, 99, 116]⟩) := Lib.hid (by unfold pnS; rw [e1]; rfl)
        clear e1
        go_wp2_with fail
        go_ret
        exact ⟨by rw [HP.out]; rfl, hA⟩
      · have q1 := beq_no' e1
        have HE := Lib.hid e1
        clear e1
        go_wp2_with fail
        go_roundw
        case rel => exact ⟨1, rfl, by omega, by first | rfl | trivial, Lib.hid (fun j hj => by
          rcases Nat.lt_or_ge j 0 with h | h
          · exact HN.out j h
          · obtain rfl : j = 0 := by omega
            exact fun e => HE.out e.symm)⟩
        case measure => decide
    · by_cases e1 : s.data.toList = [100, 105, 115, 116, 105, 110, 99, 116]
      · have q1 := beq_yes' e1
        have HP : Hid (pnS s = ⟨#[111, 100, 100]⟩) := Lib.hid (by unfold pnS; rw [e1]; rfl)
        clear e1
        go_wp2_with fail
        go_ret
        exact ⟨by rw [HP.out]; rfl, hA⟩
      · have q1 := beq_no' e1
        have HE := Lib.hid e1
        clear e1
        go_wp2_with fail
        go_roundw
        case rel => exact ⟨2, rfl, by omega, by first | rfl | trivial, Lib.hid (fun j hj => by
          rcases Nat.lt_or_ge j 1 with h | h
          · exact HN.out j h
          · obtain rfl : j = 1 := by omega
            exact fun e => HE.out e.symm)⟩
        case measure => decide
    · by_cases e1 : s.data.toList = [115, 101, 108, 102]
      · have q1 := beq_yes' e1
        have HP : Hid (pnS s = ⟨#[100, 105, 115, 116, 105, 110, 99, 116, 111, 100, 100]⟩) := Lib.hid (by unfold pnS; rw [e1]; rfl)
        clear e1
        go_wp2_with fail
        go_ret
        exact ⟨by rw [HP.out]; rfl, hA⟩
      · have q1 := beq_no' e1
        have HE := Lib.hid e1
        clear e1
        go_wp2_with fail
        go_roundw
        case rel => exact ⟨3, rfl, by omega, by first | rfl | trivial, Lib.hid (fun j hj => by
          rcases Nat.lt_or_ge j 2 with h | h
          · exact HN.out j h
          · obtain rfl : j = 2 := by omega
            exact fun e => HE.out e.symm)⟩
        case measure => decide
    · by_cases e1 : s.data.toList = [100, 105, 115, 116, 105, 110, 99, 116, 111, 100, 100]
      · have q1 := beq_yes' e1
        have HP : Hid (pnS s = ⟨#[115, 101, 108, 102]⟩) := Lib.hid (by unfold pnS; rw [e1]; rfl)
        clear e1
        go_wp2_with fail
        go_ret
        exact ⟨by rw [HP.out]; rfl, hA⟩
      · have q1 := beq_no' e1
        have HE := Lib.hid e1
        clear e1
        go_wp2_with fail
        go_roundw
        case rel => exact ⟨4, rfl, by omega, by first | rfl | trivial, Lib.hid (fun j hj => by
          rcases Nat.lt_or_ge j 3 with h | h
          · exact HN.out j h
          · obtain rfl : j = 3 := by omega
            exact fun e => HE.out e.symm)⟩
        case measure => decide
    · by_cases e1 : s.data.toList = [110, 111, 116, 116, 104, 114, 101, 101]
      · have q1 := beq_yes' e1
        have HP : Hid (pnS s = ⟨#[116, 119, 105, 99, 101]⟩) := Lib.hid (by unfold pnS; rw [e1]; rfl)
        clear e1
        go_wp2_with fail
        go_ret
        exact ⟨by rw [HP.out]; rfl, hA⟩
      · have q1 := beq_no' e1
        have HE := Lib.hid e1
        clear e1
        go_wp2_with fail
        go_roundw
        case rel => exact ⟨5, rfl, by omega, by first | rfl | trivial, Lib.hid (fun j hj => by
          rcases Nat.lt_or_ge j 4 with h | h
          · exact HN.out j h
          · obtain rfl : j = 4 := by omega
            exact fun e => HE.out e.symm)⟩
        case measure => decide
    · by_cases e1 : s.data.toList = [116, 119, 105, 99, 101]
      · have q1 := beq_yes' e1
        have HP : Hid (pnS s = ⟨#[110, 111, 116, 116, 104, 114, 101, 101]⟩) := Lib.hid (by unfold pnS; rw [e1]; rfl)
        clear e1
        go_wp2_with fail
        go_ret
        exact ⟨by rw [HP.out]; rfl, hA⟩
      · have q1 := beq_no' e1
        have HE := Lib.hid e1
        clear e1
        go_wp2_with fail
        go_roundw
        case rel => exact ⟨6, rfl, by omega, by first | rfl | trivial, Lib.hid (fun j hj => by
          rcases Nat.lt_or_ge j 5 with h | h
          · exact HN.out j h
          · obtain rfl : j = 5 := by omega
            exact fun e => HE.out e.symm)⟩
        case measure => decide
    · by_cases e1 : s.data.toList = [103, 97, 112]
      · have q1 := beq_yes' e1
        have HP : Hid (pnS s = ⟨#[102, 105, 118, 101]⟩) := Lib.hid (by unfold pnS; rw [e1]; rfl)
        clear e1
        go_wp2_with fail
        go_ret
        exact ⟨by rw [HP.out]; rfl, hA⟩
      · have q1 := beq_no' e1
        have HE := Lib.hid e1
        clear e1
        go_wp2_with fail
        go_roundw
        case rel => exact ⟨7, rfl, by omega, by first | rfl | trivial, Lib.hid (fun j hj => by
          rcases Nat.lt_or_ge j 6 with h | h
          · exact HN.out j h
          · obtain rfl : j = 6 := by omega
            exact fun e => HE.out e.symm)⟩
        case measure => decide
    · by_cases e1 : s.data.toList = [102, 105, 118, 101]
      · have q1 := beq_yes' e1
        have HP : Hid (pnS s = ⟨#[103, 97, 112]⟩) := Lib.hid (by unfold pnS; rw [e1]; rfl)
        clear e1
        go_wp2_with fail
        go_ret
        exact ⟨by rw [HP.out]; rfl, hA⟩
      · have q1 := beq_no' e1
        have HE := Lib.hid e1
        clear e1
        go_wp2_with fail
        go_roundw
        case rel => exact ⟨8, rfl, by omega, by first | rfl | trivial, Lib.hid (fun j hj => by
          rcases Nat.lt_or_ge j 7 with h | h
          · exact HN.out j h
          · obtain rfl : j = 7 := by omega
            exact fun e => HE.out e.symm)⟩
        case measure => decide
    · by_cases e1 : s.data.toList = [103, 97, 112, 111, 110, 101]
      · have q1 := beq_yes' e1
        have HP : Hid (pnS s = ⟨#[102, 105, 118, 101, 116, 119, 111]⟩) := Lib.hid (by unfold pnS; rw [e1]; rfl)
        clear e1
        go_wp2_with fail
        go_ret
        exact ⟨by rw [HP.out]; rfl, hA⟩
      · have q1 := beq_no' e1
        have HE := Lib.hid e1
        clear e1
        go_wp2_with fail
        go_roundw
        case rel => exact ⟨9, rfl, by omega, by first | rfl | trivial, Lib.hid (fun j hj => by
          rcases Nat.lt_or_ge j 8 with h | h
          · exact HN.out j h
          · obtain rfl : j = 8 := by omega
            exact fun e => HE.out e.symm)⟩
        case measure => decide
    · by_cases e1 : s.data.toList = [102, 105, 118, 101, 116, 119, 111]
      · have q1 := beq_yes' e1
        have HP : Hid (pnS s = ⟨#[103, 97, 112, 111, 110, 101]⟩) := Lib.hid (by unfold pnS; rw [e1]; rfl)
        clear e1
        go_wp2_with fail
        go_ret
        exact ⟨by rw [HP.out]; rfl, hA⟩
      · have q1 := beq_no' e1
        have HE := Lib.hid e1
        clear e1
        go_wp2_with fail
        go_roundw
        case rel => exact ⟨10, rfl, by omega, by first | rfl | trivial, Lib.hid (fun j hj => by
          rcases Nat.lt_or_ge j 9 with h | h
          · exact HN.out j h
          · obtain rfl : j = 9 := by omega
            exact fun e => HE.out e.symm)⟩
        case measure => decide
    · by_cases e1 : s.data.toList = [115, 99, 104, 117, 114]
      · have q1 := beq_yes' e1
        have HP : Hid (pnS s = ⟨#[115, 105, 120]⟩) := Lib.hid (by unfold pnS; rw [e1]; rfl)
        clear e1
        go_wp2_with fail
        go_ret
        exact ⟨by rw [HP.out]; rfl, hA⟩
      · have q1 := beq_no' e1
        have HE := Lib.hid e1
        clear e1
        go_wp2_with fail
        go_roundw
        case rel => exact ⟨11, rfl, by omega, by first | rfl | trivial, Lib.hid (fun j hj => by
          rcases Nat.lt_or_ge j 10 with h | h
          · exact HN.out j h
          · obtain rfl : j = 10 := by omega
            exact fun e => HE.out e.symm)⟩
        case measure => decide
    · by_cases e1 : s.data.toList = [115, 105, 120]
      · have q1 := beq_yes' e1
        have HP : Hid (pnS s = ⟨#[115, 99, 104, 117, 114]⟩) := Lib.hid (by unfold pnS; rw [e1]; rfl)
        clear e1
        go_wp2_with fail
        go_ret
        exact ⟨by rw [HP.out]; rfl, hA⟩
      · have q1 := beq_no' e1
        have HE := Lib.hid e1
        clear e1
        go_wp2_with fail
        go_roundw
        case rel => exact ⟨12, rfl, by omega, by first | rfl | trivial, Lib.hid (fun j hj => by
          rcases Nat.lt_or_ge j 11 with h | h
          · exact HN.out j h
          · obtain rfl : j = 11 := by omega
            exact fun e => HE.out e.symm)⟩
        case measure => decide
    · have HP : Hid (pnS s = ⟨#[]⟩) := Lib.hid (by unfold pnS; rw [pnF_none HN.out])
      go_wp2_with fail
      go_ret
      exact ⟨by rw [HP.out]; rfl, hA⟩
theorem pn_ix0 (w : World) : (Instr.index 33 (.agg pnCells.toArray) (.int .i64 0)).run Tryd.prog w = .ok (.agg #[.string ⟨#[111, 100, 100]⟩, .string ⟨#[100, 105, 115, 116, 105, 110, 99, 116]⟩]) w := by kernel_rfl
theorem pn_ix1 (w : World) : (Instr.index 33 (.agg pnCells.toArray) (.int .i64 1)).run Tryd.prog w = .ok (.agg #[.string ⟨#[115, 101, 108, 102]⟩, .string ⟨#[100, 105, 115, 116, 105, 110, 99, 116, 111, 100, 100]⟩]) w := by kernel_rfl
theorem pn_ix2 (w : World) : (Instr.index 33 (.agg pnCells.toArray) (.int .i64 2)).run Tryd.prog w = .ok (.agg #[.string ⟨#[110, 111, 116, 116, 104, 114, 101, 101]⟩, .string ⟨#[116, 119, 105, 99, 101]⟩]) w := by kernel_rfl
theorem pn_ix3 (w : World) : (Instr.index 33 (.agg pnCells.toArray) (.int .i64 3)).run Tryd.prog w = .ok (.agg #[.string ⟨#[103, 97, 112]⟩, .string ⟨#[102, 105, 118, 101]⟩]) w := by kernel_rfl
theorem pn_ix4 (w : World) : (Instr.index 33 (.agg pnCells.toArray) (.int .i64 4)).run Tryd.prog w = .ok (.agg #[.string ⟨#[103, 97, 112, 111, 110, 101]⟩, .string ⟨#[102, 105, 118, 101, 116, 119, 111]⟩]) w := by kernel_rfl
theorem pn_ix5 (w : World) : (Instr.index 33 (.agg pnCells.toArray) (.int .i64 5)).run Tryd.prog w = .ok (.agg #[.string ⟨#[115, 99, 104, 117, 114]⟩, .string ⟨#[115, 105, 120]⟩]) w := by kernel_rfl
set_option maxRecDepth 100000 in
set_option maxHeartbeats 4000000 in
theorem iPartnerOf_any (s : ByteArray) (hs : s.size ≤ 1048576) (w : World) (hG : w.rangeAt 0 0 pnCells) : Calls Tryd.prog 7 #[.string s] w fun e w' => e = .returned (.string (pnS s)) ∧ Below w.heap.size w w' := by
  go_enter Tryd.func7, Tryd.ntmps7
  go_wp2_with (refine wpList_load_mid rfl 33 (.global 0) rfl 0 0 rfl pnCells _ hG Tryd.underlying33 rfl (by kernel_rfl) ?_)
  go_loopw [6] (fun ii wr => ∃ i : Nat, ii = .int .i64 (i : Int) ∧ i ≤ 6 ∧ Below w.heap.size w wr ∧ Hid (∀ j, j < 2 * i → nmL.getD j [] ≠ s.data.toList)) (fun ii _ => 20 - (intOf ii).toNat)
  case atStart => exact ⟨0, rfl, Nat.zero_le _, Below.refl _ _, Lib.hid (fun j hj => by omega)⟩
  case round =>
    obtain ⟨i, rfl, hi, hbel, HN⟩ := hrel
    have hzr := hbel.size
    rcases (by omega : i = 0 ∨ i = 1 ∨ i = 2 ∨ i = 3 ∨ i = 4 ∨ i = 5 ∨ i = 6) with rfl | rfl | rfl | rfl | rfl | rfl | rfl
    · have x1 := pn_ix0
      by_cases e1 : s.data.toList = [111, 100, 100]
      · have q1 := beq_yes e1
        have HP : Hid (pnS s = ⟨#[100, 105, 115, 116, 105, 110, 99, 116]⟩) := Lib.hid (by unfold pnS; rw [e1]; rfl)
        clear e1
        go_wp2_with fail
        go_ret
        exact ⟨by rw [HP.out]; rfl, hbel.alloc hzr _⟩
      · have q1 := beq_no e1
        have HE := Lib.hid e1
        clear e1
        by_cases e2 : s.data.toList = [100, 105, 115, 116, 105, 110, 99, 116]
        · have q2 := beq_yes e2
          have HP : Hid (pnS s = ⟨#[111, 100, 100]⟩) := Lib.hid (by unfold pnS; rw [e2]; rfl)
          clear e2
          go_wp2_with fail
          go_ret
          exact ⟨by rw [HP.out]; rfl, hbel.alloc hzr _⟩
        · have q2 := beq_no e2
          have HF := Lib.hid e2
          clear e2
          go_wp2_with fail
          go_roundw
          case rel => exact ⟨1, rfl, by omega, hbel.alloc hzr _, Lib.hid (fun j hj => by
            rcases Nat.lt_or_ge j 0 with h | h
            · exact HN.out j h
            · rcases (by omega : j = 0 ∨ j = 1) with rfl | rfl
              · exact fun e => HE.out e.symm
              · exact fun e => HF.out e.symm)⟩
          case measure => decide
    · have x1 := pn_ix1
      by_cases e1 : s.data.toList = [115, 101, 108, 102]
      · have q1 := beq_yes e1
        have HP : Hid (pnS s = ⟨#[100, 105, 115, 116, 105, 110, 99, 116, 111, 100, 100]⟩) := Lib.hid (by unfold pnS; rw [e1]; rfl)
        clear e1
        go_wp2_with fail
        go_ret
        exact ⟨by rw [HP.out]; rfl, hbel.alloc hzr _⟩
      · have q1 := beq_no e1
        have HE := Lib.hid e1
        clear e1
        by_cases e2 : s.data.toList = [100, 105, 115, 116, 105, 110, 99, 116, 111, 100, 100]
        · have q2 := beq_yes e2
          have HP : Hid (pnS s = ⟨#[115, 101, 108, 102]⟩) := Lib.hid (by unfold pnS; rw [e2]; rfl)
          clear e2
          go_wp2_with fail
          go_ret
          exact ⟨by rw [HP.out]; rfl, hbel.alloc hzr _⟩
        · have q2 := beq_no e2
          have HF := Lib.hid e2
          clear e2
          go_wp2_with fail
          go_roundw
          case rel => exact ⟨2, rfl, by omega, hbel.alloc hzr _, Lib.hid (fun j hj => by
            rcases Nat.lt_or_ge j 2 with h | h
            · exact HN.out j h
            · rcases (by omega : j = 2 ∨ j = 3) with rfl | rfl
              · exact fun e => HE.out e.symm
              · exact fun e => HF.out e.symm)⟩
          case measure => decide
    · have x1 := pn_ix2
      by_cases e1 : s.data.toList = [110, 111, 116, 116, 104, 114, 101, 101]
      · have q1 := beq_yes e1
        have HP : Hid (pnS s = ⟨#[116, 119, 105, 99, 101]⟩) := Lib.hid (by unfold pnS; rw [e1]; rfl)
        clear e1
        go_wp2_with fail
        go_ret
        exact ⟨by rw [HP.out]; rfl, hbel.alloc hzr _⟩
      · have q1 := beq_no e1
        have HE := Lib.hid e1
        clear e1
        by_cases e2 : s.data.toList = [116, 119, 105, 99, 101]
        · have q2 := beq_yes e2
          have HP : Hid (pnS s = ⟨#[110, 111, 116, 116, 104, 114, 101, 101]⟩) := Lib.hid (by unfold pnS; rw [e2]; rfl)
          clear e2
          go_wp2_with fail
          go_ret
          exact ⟨by rw [HP.out]; rfl, hbel.alloc hzr _⟩
        · have q2 := beq_no e2
          have HF := Lib.hid e2
          clear e2
          go_wp2_with fail
          go_roundw
          case rel => exact ⟨3, rfl, by omega, hbel.alloc hzr _, Lib.hid (fun j hj => by
            rcases Nat.lt_or_ge j 4 with h | h
            · exact HN.out j h
            · rcases (by omega : j = 4 ∨ j = 5) with rfl | rfl
              · exact fun e => HE.out e.symm
              · exact fun e => HF.out e.symm)⟩
          case measure => decide
    · have x1 := pn_ix3
      by_cases e1 : s.data.toList = [103, 97, 112]
      · have q1 := beq_yes e1
        have HP : Hid (pnS s = ⟨#[102, 105, 118, 101]⟩) := Lib.hid (by unfold pnS; rw [e1]; rfl)
        clear e1
        go_wp2_with fail
        go_ret
        exact ⟨by rw [HP.out]; rfl, hbel.alloc hzr _⟩
      · have q1 := beq_no e1
        have HE := Lib.hid e1
        clear e1
        by_cases e2 : s.data.toList = [102, 105, 118, 101]
        · have q2 := beq_yes e2
          have HP : Hid (pnS s = ⟨#[103, 97, 112]⟩) := Lib.hid (by unfold pnS; rw [e2]; rfl)
          clear e2
          go_wp2_with fail
          go_ret
          exact ⟨by rw [HP.out]; rfl, hbel.alloc hzr _⟩
        · have q2 := beq_no e2
          have HF := Lib.hid e2
          clear e2
          go_wp2_with fail
          go_roundw
          case rel => exact ⟨4, rfl, by omega, hbel.alloc hzr _, Lib.hid (fun j hj => by
            rcases Nat.lt_or_ge j 6 with h | h
            · exact HN.out j h
            · rcases (by omega : j = 6 ∨ j = 7) with rfl | rfl
              · exact fun e => HE.out e.symm
              · exact fun e => HF.out e.symm)⟩
          case measure => decide
    · have x1 := pn_ix4
      by_cases e1 : s.data.toList = [103, 97, 112, 111, 110, 101]
      · have q1 := beq_yes e1
        have HP : Hid (pnS s = ⟨#[102, 105, 118, 101, 116, 119, 111]⟩) := Lib.hid (by unfold pnS; rw [e1]; rfl)
        clear e1
        go_wp2_with fail
        go_ret
        exact ⟨by rw [HP.out]; rfl, hbel.alloc hzr _⟩
      · have q1 := beq_no e1
        have HE := Lib.hid e1
        clear e1
        by_cases e2 : s.data.toList = [102, 105, 118, 101, 116, 119, 111]
        · have q2 := beq_yes e2
          have HP : Hid (pnS s = ⟨#[103, 97, 112, 111, 110, 101]⟩) := Lib.hid (by unfold pnS; rw [e2]; rfl)
          clear e2
          go_wp2_with fail
          go_ret
          exact ⟨by rw [HP.out]; rfl, hbel.alloc hzr _⟩
        · have q2 := beq_no e2
          have HF := Lib.hid e2
          clear e2
          go_wp2_with fail
          go_roundw
          case rel => exact ⟨5, rfl, by omega, hbel.alloc hzr _, Lib.hid (fun j hj => by
            rcases Nat.lt_or_ge j 8 with h | h
            · exact HN.out j h
            · rcases (by omega : j = 8 ∨ j = 9) with rfl | rfl
              · exact fun e => HE.out e.symm
              · exact fun e => HF.out e.symm)⟩
          case measure => decide
    · have x1 := pn_ix5
      by_cases e1 : s.data.toList = [115, 99, 104, 117, 114]
      · have q1 := beq_yes e1
        have HP : Hid (pnS s = ⟨#[115, 105, 120]⟩) := Lib.hid (by unfold pnS; rw [e1]; rfl)
        clear e1
        go_wp2_with fail
        go_ret
        exact ⟨by rw [HP.out]; rfl, hbel.alloc hzr _⟩
      · have q1 := beq_no e1
        have HE := Lib.hid e1
        clear e1
        by_cases e2 : s.data.toList = [115, 105, 120]
        · have q2 := beq_yes e2
          have HP : Hid (pnS s = ⟨#[115, 99, 104, 117, 114]⟩) := Lib.hid (by unfold pnS; rw [e2]; rfl)
          clear e2
          go_wp2_with fail
          go_ret
          exact ⟨by rw [HP.out]; rfl, hbel.alloc hzr _⟩
        · have q2 := beq_no e2
          have HF := Lib.hid e2
          clear e2
          go_wp2_with fail
          go_roundw
          case rel => exact ⟨6, rfl, by omega, hbel.alloc hzr _, Lib.hid (fun j hj => by
            rcases Nat.lt_or_ge j 10 with h | h
            · exact HN.out j h
            · rcases (by omega : j = 10 ∨ j = 11) with rfl | rfl
              · exact fun e => HE.out e.symm
              · exact fun e => HF.out e.symm)⟩
          case measure => decide
    · have HP : Hid (pnS s = ⟨#[]⟩) := Lib.hid (by unfold pnS; rw [pnF_none HN.out])
      go_wp2_with fail
      go_ret
      exact ⟨by rw [HP.out]; rfl, hbel⟩
end Go.Proofs.YtmlomapifldlpaaDoor
namespace Go.Proofs.YtmlomapifldlpaaDoor
open Go.RowKit NP
set_option maxRecDepth 8000
set_option linter.unusedVariables false
theorem T_info35 : (Tryd.prog.info? 68).map (·.size) = some 16 := by kernel_rfl

end Go.Proofs.YtmlomapifldlpaaDoor
namespace Go.Proofs.YtmlomapifldlpaaDoor
open Go.RowKit NP
set_option maxRecDepth 8000
set_option linter.unusedVariables false

def cntD (D : List Int) : Nat := ff (fun k => decide (0 < D.getD k 0)) 16
def durD (D : List Int) : Nat := ff (fun (k : Nat) => decide ((k : Int) < D.getD k 0)) 16
theorem box_cell (w : World) (D : List Int) (k : Nat) (hk : k < D.length) : (w.alloc (.cells (arr D) 68)).cell? ⟨w.heap.size, k, none⟩ = some (.int .i64 D[k]) := by
  rw [(Blk.new w _ _).cell k, arr_get D k hk]

theorem count_any (D : List Int) (hD : D.length = 16) (w : World) :
    Calls Tryd.prog 45 #[.agg (arr D)] w fun e w' => e = .returned (.int .i64 (cntD D)) ∧ Below w.heap.size w w' := by
  have HD := Lib.hid hD
  have hd16 : 16 ≤ D.length := by omega
  clear hD
  go_enter Tryd.func45, Tryd.ntmps45
  go_wp2
  go_loop [3] (fun i => ∃ k : Nat, k ≤ 16 ∧ i = .int .i64 k ∧ Hid (∀ j, j < k → (fun k => decide (0 < D.getD k 0)) j = true)) (fun i => 16 - (intOf i).toNat)
  case atStart => exact ⟨0, Nat.zero_le _, rfl, Lib.hid fun j hj => by omega⟩
  case round =>
    obtain ⟨k, hk, rfl, HP⟩ := hrel
    by_cases hlt : k < 16
    · have hkD : k < D.length := by omega
      have hc := box_cell w D k hkD
      by_cases hx : 0 < D[k]
      · go_wp2
        go_round
        case rel => exact ⟨k + 1, by omega, by go_num, Lib.hid fun j hj => by
          rcases Nat.lt_or_ge j k with h | h
          · exact HP.out j h
          · obtain rfl : j = k := by omega
            simp [List.getD, hkD]; omega⟩
        case measure => simp [intOf]; omega
      · have hx' : D[k] ≤ 0 := by omega
        clear hx
        go_wp2
        go_ret
        exact ⟨ret_i64 (by unfold cntD; rw [ff_eq HP.out hk (.inr (by simp [List.getD, hkD]; omega))]), (Below.refl _ _).alloc (Nat.le_refl _) _⟩
    · obtain rfl : k = 16 := by omega
      go_wp2
      go_ret
      exact ⟨ret_i64 (by unfold cntD; rw [ff_eq HP.out hk (.inl rfl)]; rfl), (Below.refl _ _).alloc (Nat.le_refl _) _⟩

theorem T_index (D : List Int) (k : Nat) (hk : k < D.length) (h16 : k < 16) (w : World) : (Instr.index 68 (.agg (arr D)) (.int .i64 k)).run Tryd.prog w = .ok (.int .i64 D[k]) w :=
  run_index_row 68 3 _ 16 Tryd.underlying68 Tryd.underlying3 rfl (by kernel_rfl) (arr D) k _ h16 (arr_get D k hk) .i64 w


theorem splice_all {α : Type} (Z X : List α) (h : Z.length = X.length) : splice Z 0 X = X := by simp [splice, ← h]
theorem pad_cells {w : World} {g : Nat} {t : TypeId} {M : List Int} (hlen : M.length ≤ 16) (hb : Blk w g t (arr (pad M))) : ∀ j v, (ints M)[j]? = some v → w.cell? ((⟨g, 0, none⟩ : Addr).add j) = some v := by
  intro j v hv
  rw [Addr.add_lit, Nat.zero_add, hb.cell j]
  have hj : j < M.length := by
    have := (List.getElem?_eq_some_iff.1 hv).1
    simpa using this
  rw [arr_get (pad M) j (by rw [pad_len hlen]; omega), pad_get hlen hj]
  simpa [hj] using hv

theorem list_any (M : List Int) (hM : valid M = true) (w : World) :
    Calls Tryd.prog 43 #[.agg (arr (pad M))] w fun e w' => ∃ a', e = .returned (.slice a' M.length M.length) ∧ Own w' w.heap.size w'.heap.size 3 (.slice a' M.length M.length) (ints M) ∧ Below w.heap.size w w' := by
  have hbd := valid_bd hM
  have hlen : M.length ≤ 16 := hbd.2.2.2
  have hff : cntD (pad M) = M.length := by
    unfold cntD
    refine ff_eq (fun j hj => ?_) hlen ?_
    · have h1 := preS_of_valid hM j hj hj
      rw [List.getD_eq_getElem?_getD, List.getElem?_eq_getElem (by rw [pad_len hlen]; omega), Option.getD_some, pad_get hlen hj]
      simp; omega
    · rcases Nat.lt_or_ge M.length 16 with h | h
      · right
        rw [List.getD_eq_getElem?_getD, List.getElem?_eq_getElem (by rw [pad_len hlen]; omega), Option.getD_some, pad_get0 hlen (Nat.le_refl _) h]
        simp
      · left; omega
  have HF := Lib.hid hff
  clear hff
  have hi16 : (Tryd.prog.info? 68).map (·.size) = some (arr (pad M)).size := by rw [arr_size, pad_len hlen]; exact T_info35
  obtain ⟨i0, hi, hz0, hz1, hz2⟩ := T_int'
  have hmk := run_make_ints 46 3 i0 Tryd.underlying46 hi hz0 hz1 hz2 M.length (by omega)
  have hb := Blk.new w 68 (arr (pad M))
  have HM := Lib.hid hM
  clear hM
  go_enter Tryd.func43, Tryd.ntmps43
  go_wp2_with (first
    | (refine wpList_load_row rfl 68 (.tmp 1) rfl w.heap.size rfl 68 (arr (pad M)) (0, 0) _ hb Tryd.underlying68 rfl hi16 ?_)
    | (go_at_call 45; refine (count_any (pad M) (pad_len hlen) _).mono ?_; rintro e w1 ⟨rfl, hb1⟩; rw [HF.out]; have hbk := hb.below hb1 (by simp))
    | ((with_reducible show wpList _ _ _ (Oper.mk _ (Op.call (Call.mk (Callee.builtin Builtin.copy) _ _)) _ _ _ _ :: _) _ _); go_loud (refine wpList_copy_splice rfl (.tmp 7) (.tmp 8) 46 46 rfl 3 Tryd.underlying46 (by rw [hi]; simp [hz1]) (some ⟨w1.heap.size, 0, none⟩) (some ⟨w.heap.size, 0, none⟩) M.length M.length 16 16 rfl rfl w1.heap.size 0 (ints (List.replicate M.length 0)) 3 (heap_alloc_new w1 _) (ints M) (by rw [show Nat.min 16 M.length = M.length from Nat.min_eq_right hlen]; simp) (fun _ => ⟨rfl, _, rfl, pad_cells hlen (hbk.alloc _)⟩) (by simp) (ints_one M) w.heap.size w ((((Below.refl _ _).alloc (Nat.le_refl _) _).trans (hb1.mono (by simp))).alloc (by have := hb1.size; simp at this; omega) _) (by have := hb1.size; simp at this; omega) ?_); intro w2 hg2 hb2))
  go_ret
  have hg3 : Blk w2 w1.heap.size 3 (ints M).toArray := by
    have := hg2.out
    rw [splice_all _ _ (by simp)] at this
    exact this
  have ho := hg3.own (lo := w.heap.size) (by have := hb1.size; simp at this; omega) (by simp [maxLen]; omega)
  simp only [ints, List.length_map] at ho
  exact ⟨_, rfl, ho, hb2⟩

/-- what has been counted when k rows are done, and j cells of the next -/
def acc (D : List Int) (k j : Nat) : List Int := (List.range 16).map fun (q : Nat) => cnt ((q : Int) + 1) (D.take k) + (if q < j then 1 else 0)
theorem acc_len (D : List Int) (k j : Nat) : (acc D k j).length = 16 := by simp [acc]
theorem acc_get (D : List Int) (k j : Nat) (h : j < 16) : (acc D k j)[j]'(by rw [acc_len]; exact h) = cnt ((j : Int) + 1) (D.take k) := by simp [acc]
theorem acc_set (D : List Int) (k j : Nat) (_h : j < 16) : (acc D k j).set j (cnt ((j : Int) + 1) (D.take k) + 1) = acc D k (j + 1) := by
  apply List.ext_getElem
  · simp [acc]
  · intro q h1 h2
    simp only [acc, List.length_set, List.length_map, List.length_range] at h1
    by_cases hq : j = q
    · subst hq
      simp [acc]
    · rw [List.getElem_set_ne hq]
      simp only [acc, List.getElem_map, List.getElem_range]
      by_cases h3 : q < j
      · rw [if_pos h3, if_pos (by omega)]
      · rw [if_neg h3, if_neg (by omega)]
theorem acc_next (D : List Int) (k : Nat) (hk : k < D.length) (h0 : 0 ≤ D[k]) (j : Nat) (hj : (j : Int) = D[k]) : acc D k j = acc D (k + 1) 0 := by
  apply List.map_congr_left
  intro q _
  rw [cnt_take_succ _ D k hk]
  by_cases h3 : q < j
  · rw [if_pos h3, if_pos (by omega)]; simp
  · rw [if_neg h3, if_neg (by omega)]; simp
theorem acc_zero (D : List Int) : acc D 0 0 = List.replicate 16 0 := by
  unfold acc
  simp [cnt]
  rfl
theorem acc_end (D : List Int) (hD : D.length = 16) : acc D 16 0 = (List.range 16).map fun (j : Nat) => cnt ((j : Int) + 1) D := by
  unfold acc
  rw [List.take_of_length_le (by omega)]
  simp

theorem conjugate_any (D : List Int) (hD : D.length = 16) (h0 : ∀ k (h : k < D.length), 0 ≤ D[k] ∧ D[k] ≤ 16) (w : World) :
    Calls Tryd.prog 46 #[.agg (arr D)] w fun e w' => e = .returned (.agg (arr (acc D 16 0))) ∧ Below w.heap.size w w' := by
  have HD := Lib.hid hD
  have hd16 : 16 ≤ D.length := by omega
  have hi16 : (Tryd.prog.info? 68).map (·.size) = some (arr D).size := by rw [arr_size, hD]; exact T_info35
  have H0 := Lib.hid h0
  clear hD h0
  have hb := Blk.new w 68 (arr D)
  have hb' := (hb.alloc (.cells (arr (List.replicate 16 0)) 68)).alloc (.cells (arr (List.replicate 16 0)) 68)
  go_enter Tryd.func46, Tryd.ntmps46
  go_wp2_with (refine wpList_load_row rfl 68 (.tmp 1) rfl w.heap.size rfl 68 (arr D) (0, 0) _ hb' Tryd.underlying68 rfl hi16 ?_)
  go_loopw [8] (fun i wr => ∃ k : Nat, k ≤ 16 ∧ i = .int .i64 k ∧ Below w.heap.size w wr ∧ Blk wr (w.heap.size + 1) 68 (arr (List.replicate 16 0)) ∧ Blk wr (w.heap.size + 2) 68 (arr (acc D k 0))) (fun i _ => 16 - (intOf i).toNat)
  case atStart =>
    refine ⟨0, Nat.zero_le _, rfl, ?_, ?_, ?_⟩
    · exact (((Below.refl _ _).alloc (Nat.le_refl _) _).alloc (by simp) _).alloc (by simp; omega) _
    · have e := (Blk.new (w.alloc (.cells (arr D) 68)) 68 (arr (List.replicate 16 0))).alloc (.cells (arr (List.replicate 16 0)) 68)
      rw [World.size_alloc] at e
      exact e
    · rw [acc_zero]
      have e := Blk.new ((w.alloc (.cells (arr D) 68)).alloc (.cells (arr (List.replicate 16 0)) 68)) 68 (arr (List.replicate 16 0))
      rw [World.size_alloc, World.size_alloc] at e
      exact e
  case round =>
    obtain ⟨k, hk, rfl, hbel, hb2, hb3⟩ := hrel
    obtain ⟨wo, rfl⟩ : ∃ wo : World, wo = wr := ⟨_, rfl⟩
    by_cases hlt : k < 16
    · have hkD : k < D.length := by omega
      have hc := T_index D k hkD hlt
      have h1 := H0.out k hkD
      go_wp2
      go_loopw [12] (fun i wr => ∃ j : Nat, (j : Int) ≤ D[k] ∧ i = .int .i64 j ∧ Below w.heap.size w wr ∧ Blk wr (w.heap.size + 1) 68 (arr (List.replicate 16 0)) ∧ Blk wr (w.heap.size + 2) 68 (arr (acc D k j))) (fun i _ => 16 - (intOf i).toNat)
      case atStart => exact ⟨0, h1.1, rfl, hbel, hb2, hb3⟩
      case round =>
        obtain ⟨j, hj, rfl, hbel', hb2', hb3'⟩ := hrel
        clear hbel hb2 hb3
        by_cases hltj : (j : Int) < D[k]
        · have hj16 : j < 16 := by omega
          have hcj : wr.cell? ⟨w.heap.size + 2, j, none⟩ = some (.int .i64 (cnt ((j : Int) + 1) (D.take k))) := by rw [hb3'.cell j, arr_get _ j (by rw [acc_len]; exact hj16), acc_get D k j hj16]
          have hfj : wr.frozen? ⟨w.heap.size + 2, j, none⟩ = false := hb3'.free j
          have hbd := cnt_bd ((j : Int) + 1) (D.take k)
          have hbl : (D.take k).length ≤ 16 := by simp; omega
          have HS := Lib.hid (acc_set D k j hj16)
          go_wp2
          go_roundw
          case rel =>
            refine ⟨j + 1, by omega, by go_num, hbel'.setCell (by show w.heap.size ≤ w.heap.size + 2; omega) _, hb2'.off (by show w.heap.size + 1 ≠ w.heap.size + 2; omega) _, ?_⟩
            have e := hb3'.set j (.int .i64 (cnt ((j : Int) + 1) (D.take k) + 1))
            rw [arr_set, HS.out] at e
            exact e
          case measure => simp [intOf]; omega
        · have hje : (j : Int) = D[k] := by omega
          have HE := Lib.hid (acc_next D k hkD h1.1 j hje)
          clear hje
          go_wp2
          go_roundw
          case rel => exact ⟨k + 1, by omega, by go_num, hbel', hb2', by rw [← HE.out]; exact hb3'⟩
          case measure => simp [intOf]; omega
    · obtain rfl : k = 16 := by omega
      have hi2 : (Tryd.prog.info? 68).map (·.size) = some (arr (acc D 16 0)).size := by rw [arr_size, acc_len]; exact T_info35
      have hsz : (arr (acc D 16 0)).size = (arr (List.replicate 16 0)).size := by rw [arr_size, arr_size, acc_len]; rfl
      go_wp2_with (first | (refine wpList_load_row rfl 68 (.tmp 3) rfl (w.heap.size + 2) rfl 68 (arr (acc D 16 0)) (0, 0) _ hb3 Tryd.underlying68 rfl hi2 ?_) | (refine wpList_store_row rfl 68 (.tmp 2) (.tmp 22) rfl (w.heap.size + 1) rfl (arr (acc D 16 0)) rfl 68 _ hb2 hi2 hsz (arr_one _) ?_))
      refine bodyPost_ret (results_cell_row rfl _ _ (w.heap.size + 1) 68 (arr (acc D 16 0)) (0, 0) _ rfl hb2.row Tryd.underlying68 rfl hi2) rfl ?_
      exact ⟨rfl, below_setRow' hbel (by omega) _⟩
end Go.Proofs.YtmlomapifldlpaaDoor
namespace Go.Proofs.YtmlomapifldlpaaDoor
open Go.RowKit NP
set_option maxRecDepth 8000
set_option linter.unusedVariables false

def sumF (L : List Int) : Int := if valid L then sumL L else -1
theorem sumF_yes {L : List Int} (h : valid L = true) : sumF L = sumL L := by simp [sumF, h]
theorem sumF_no {L : List Int} (h : valid L = false) : sumF L = -1 := by simp [sumF, h]
def durF (L : List Int) : Int := if valid L then durS L else -1
theorem durF_yes {L : List Int} (h : valid L = true) : durF L = durS L := by simp [durF, h]
theorem durF_no {L : List Int} (h : valid L = false) : durF L = -1 := by simp [durF, h]
def conjF (L : List Int) : List Int := if valid L then conj L else []
theorem conjF_yes {L : List Int} (h : valid L = true) : conjF L = conj L := by simp [conjF, h]
theorem conjF_no {L : List Int} (h : valid L = false) : conjF L = [] := by simp [conjF, h]
theorem conjF_len (L : List Int) : (conjF L).length ≤ 16 := by
  unfold conjF
  split
  · rename_i h
    rw [conj_len]
    have := headD_bd h
    omega
  · simp
theorem sumF_conjF {L : List Int} (h : valid L = true) : sumF (conjF L) = sumL L := by
  rw [conjF_yes h, sumF_yes (valid_conj h), sumL_conj h]
theorem valid_fits {L : List Int} (h : valid L = true) : sumFits L := fun k hk => by
  have := preS_sum (preS_of_valid h) k hk
  have := (valid_bd h).2.2.2
  omega
theorem sumL_zeros (n : Nat) : sumL (List.replicate n 0) = 0 := by
  induction n with
  | zero => rfl
  | succ n ih => rw [List.replicate_succ, sumL, ih]; rfl
theorem sumL_pad (L : List Int) : sumL (pad L) = sumL L := by unfold pad; rw [sumL_append, sumL_zeros]; omega
theorem pad_nonneg {L : List Int} (h : valid L = true) : ∀ k (hk : k < (pad L).length), 0 ≤ (pad L)[k] ∧ (pad L)[k] ≤ 16 := by
  intro k hk
  have hl := (valid_bd h).2.2.2
  rw [pad_len hl] at hk
  by_cases h1 : k < L.length
  · rw [pad_get hl h1]
    have := preS_of_valid h k h1 h1
    omega
  · rw [pad_get0 hl (by omega) hk]; omega
theorem pad_fits {L : List Int} (h : valid L = true) : sumFits (pad L) := by
  have hl := (valid_bd h).2.2.2
  have key : ∀ k, k ≤ (pad L).length → 0 ≤ sumL ((pad L).take k) ∧ sumL ((pad L).take k) ≤ 16 * k := by
    intro k
    induction k with
    | zero => intro _; simp [sumL]
    | succ k ih =>
      intro hk
      have := ih (by omega)
      have h1 := pad_nonneg h k (by omega)
      rw [sumL_take_succ _ k (by omega)]
      omega
  intro k hk
  have := key k hk
  rw [pad_len hl] at hk
  omega
theorem durD_pad {L : List Int} (h : valid L = true) : durD (pad L) = durS L := by
  have hl := (valid_bd h).2.2.2
  have hn : ∀ j, j ≤ L.length → (∀ i, i < j → decide ((i : Int) < L.getD i 0) = true) → (j = L.length ∨ decide ((j : Int) < L.getD j 0) = false) → durD (pad L) = j ∧ durS L = j := by
    intro j hj hp hq
    refine ⟨ff_eq (fun i hi => ?_) (by omega) ?_, ff_eq hp hj hq⟩
    · have := hp i hi
      rw [List.getD_eq_getElem?_getD, List.getElem?_eq_getElem (by omega), Option.getD_some] at this
      rw [List.getD_eq_getElem?_getD, List.getElem?_eq_getElem (by rw [pad_len hl]; omega), Option.getD_some, pad_get hl (by omega)]
      exact this
    · rcases Nat.lt_or_ge j 16 with h16 | h16
      · right
        rw [List.getD_eq_getElem?_getD, List.getElem?_eq_getElem (by rw [pad_len hl]; omega), Option.getD_some]
        rcases Nat.lt_or_ge j L.length with hjl | hjl
        · rw [pad_get hl hjl]
          rcases hq with hq | hq
          · omega
          · rw [List.getD_eq_getElem?_getD, List.getElem?_eq_getElem (by omega), Option.getD_some] at hq
            exact hq
        · rw [pad_get0 hl hjl h16]; simp
      · left; omega
  have ex : ∀ n, n ≤ L.length → (∀ i, i < n → decide ((i : Int) < L.getD i 0) = true) ∨ ∃ j, j < n ∧ (∀ i, i < j → decide ((i : Int) < L.getD i 0) = true) ∧ decide ((j : Int) < L.getD j 0) = false := by
    intro n
    induction n with
    | zero => intro _; left; intro i hi; omega
    | succ n ih =>
      intro hn
      rcases ih (by omega) with h1 | ⟨j, hj, h1, h2⟩
      · cases hd : decide ((n : Int) < L.getD n 0) with
        | true =>
          left
          intro i hi
          rcases Nat.lt_or_ge i n with h3 | h3
          · exact h1 i h3
          · obtain rfl : i = n := by omega
            exact hd
        | false => right; exact ⟨n, by omega, h1, hd⟩
      · right; exact ⟨j, by omega, h1, h2⟩
  rcases ex L.length (Nat.le_refl _) with h1 | ⟨j, hj, h1, h2⟩
  · have := hn L.length (Nat.le_refl _) h1 (.inl rfl)
    rw [this.1, this.2]
  · have := hn j (by omega) h1 (.inr h2)
    rw [this.1, this.2]





theorem dg_len (L : List Int) : (dg L).length = 16 := by
  unfold dg
  split
  · exact pad_len (valid_bd ‹_›).2.2.2
  · rfl





theorem sconjugate_any (a : Option Addr) (c B : Nat) (L : List Int) (w : World) (h : Rd w B a (ints L)) (hB : B ≤ w.heap.size) (hv : valid L = true) :
    Calls Tryd.prog 35 #[.slice a L.length c] w fun e w' => ∃ a' c', e = .returned (.slice a' (conj L).length c') ∧ Own w' w.heap.size w'.heap.size 3 (.slice a' (conj L).length c') (ints (conj L)) ∧ Below w.heap.size w w' := by
  have hbd := valid_bd hv
  have hhd := headD_bd hv
  obtain ⟨i0, hi, hz0, hz1, hz2⟩ := T_int'
  have HV := Lib.hid hv
  clear hv
  generalize hH : (L.headD 0).toNat = H
  have hHc : (H : Int) = L.headD 0 := by omega
  have hH16 : H ≤ 16 := by omega
  have HH := Lib.hid hH
  clear hH
  have H0 : Hid (∀ h0 : 0 < L.length, L[0] = (H : Int)) := Lib.hid fun h0 => by rw [hHc]; cases L <;> simp at h0 ⊢
  have H1 : Hid (¬ 0 < L.length → H = 0) := Lib.hid fun h0 => by cases L <;> simp at h0 hHc ⊢; omega
  clear hHc hhd
  have HE : Hid (conj L = (List.range H).map fun (j : Nat) => cnt ((j : Int) + 1) L) := Lib.hid (by unfold conj; rw [HH.out])
  go_enter Tryd.func35, Tryd.ntmps35
  go_wp2
  go_loopw [3, 4] (fun v i wr => ∃ k : Nat, k ≤ H ∧ i = .int .i64 ((k : Int) + 1) ∧ Below w.heap.size w wr ∧ Own wr w.heap.size wr.heap.size 3 v (ints ((List.range k).map fun (j : Nat) => cnt ((j : Int) + 1) L))) (fun _ i _ => 20 - (intOf i).toNat)
  case atStart => exact ⟨0, Nat.zero_le _, rfl, (Below.refl _ _).alloc (Nat.le_refl _) _, (Own.empty w 3).more⟩
  case round =>
    obtain ⟨k, hk, rfl, hbel, hown⟩ := hrel
    by_cases h0 : 0 < L.length
    · have hR := (h.more hB).below hbel
      obtain ⟨b, o, rfl, _, hc0⟩ := hR.at_ h0
      have hc0' : wr.cell? ⟨b, o, none⟩ = some (.int .i64 H) := by rw [← H0.out h0]; exact hc0
      have h0' : (0 : Int) < (L.length : Int) := by omega
      clear hc0
      by_cases hlt : k < H
      · have hlt' : (k : Int) + 1 ≤ (H : Int) := by omega
        have HO := Lib.hid hown
        clear hown
        go_wp2
        go_loop [5, 6] (fun n i => ∃ j : Nat, j ≤ L.length ∧ i = .int .i64 j ∧ n = .int .i64 (cnt ((k : Int) + 1) (L.take j))) (fun _ i => L.length - (intOf i).toNat)
        case atStart => exact ⟨0, Nat.zero_le _, rfl, rfl⟩
        case round =>
          obtain ⟨j, hj, rfl, rfl⟩ := hrel
          have hbj := cnt_bd ((k : Int) + 1) (L.take j)
          have hbl : (L.take j).length ≤ 16 := by simp; omega
          by_cases hltj : j < L.length
          · obtain ⟨b2, o2, e2, _, hcj⟩ := hR.at_ hltj
            injection e2 with e2; injection e2 with e2 e3; subst e2 e3
            have HS := Lib.hid (cnt_take_succ ((k : Int) + 1) L j hltj)
            by_cases hx : (k : Int) + 1 ≤ L[j]
            · go_wp2
              go_round
              case rel => exact ⟨j + 1, by omega, by go_num, by rw [HS.out, if_pos hx]⟩
              case measure => simp [intOf]; omega
            · have hx' : L[j] < (k : Int) + 1 := by omega
              go_wp2
              go_round
              case rel => exact ⟨j + 1, by omega, by go_num, by rw [HS.out, if_neg hx]; simp⟩
              case measure => simp [intOf]; omega
          · obtain rfl : j = L.length := by omega
            have ht : L.take L.length = L := List.take_of_length_le (Nat.le_refl _)
            rw [ht]
            have hlen2 : (ints ((List.range k).map fun (j : Nat) => cnt ((j : Int) + 1) L)).length = k := by simp
            obtain ⟨vs, hvs⟩ : ∃ vs, vs = ints ((List.range k).map fun (j : Nat) => cnt ((j : Int) + 1) L) := ⟨_, rfl⟩
            have hown := HO.out
            rw [← hvs] at hown hlen2
            have HVS := Lib.hid hvs
            clear hvs
            go_wp2_with (at_builtin; refine wpList_append_o _ rfl (.tmp 34) (.tmp 36) 46 rfl w.heap.size wr.heap.size 3 i0 (.int .i64 0) 8 Tryd.underlying46 hi hz0 hz1 hz2 rfl _ vs rfl (hown.alloc _) (wr.heap.size + 1) (some ⟨wr.heap.size, 0, none⟩) 1 1 [.int .i64 (cnt ((k : Int) + 1) L)] rfl (Rd.one wr _ _) rfl (by simp; rfl) (by rw [hlen2]; unfold maxLen; omega) (by rw [hlen2]; omega) (by have := hbel.size; simp; omega) ?_; intro v' w1 ho1 hg1 hat1)
            go_roundw
            case rel =>
              refine ⟨k + 1, by omega, by go_num, below_push hbel (Nat.le_refl _) hg1 hown.base, ?_⟩
              rw [HVS.out] at ho1
              simpa [ints, List.range_succ] using ho1
            case measure => simp [intOf]; omega
      · obtain rfl : k = H := by omega
        have HO := Lib.hid hown
        clear hown
        obtain ⟨a', c', rfl⟩ := HO.out.form
        have hlt' : (k : Int) < (k : Int) + 1 := by omega
        go_wp2
        go_ret
        have hl1 : (conj L).length = (ints ((List.range k).map fun (j : Nat) => cnt ((j : Int) + 1) L)).length := by rw [HE.out]; simp
        refine ⟨a', c', by rw [hl1]; rfl, ?_, hbel⟩
        rw [hl1, HE.out]
        exact HO.out
    · have hk0 := H1.out h0
      obtain rfl : k = H := by omega
      have h0' : decide (0 < L.length) = false := decide_eq_false h0
      have h0'' : (L.length : Int) ≤ 0 := by omega
      have HO := Lib.hid hown
      clear hown hk0
      obtain ⟨a', c', rfl⟩ := HO.out.form
      go_wp2
      go_ret
      have hl1 : (conj L).length = (ints ((List.range k).map fun (j : Nat) => cnt ((j : Int) + 1) L)).length := by rw [HE.out]; simp
      refine ⟨a', c', by rw [hl1]; rfl, ?_, hbel⟩
      rw [hl1, HE.out]
      exact HO.out


end Go.Proofs.YtmlomapifldlpaaDoor
namespace Go.Proofs.YtmlomapifldlpaaDoor
namespace NP
/-- how many are k -/
def eqc (k : Int) : List Int → Int
  | [] => 0
  | x :: r => (if x = k then 1 else 0) + eqc k r
theorem eqc_append (k : Int) (a b : List Int) : eqc k (a ++ b) = eqc k a + eqc k b := by
  induction a with
  | nil => simp [eqc]
  | cons x r ih => simp [eqc, ih]; omega
theorem eqc_take_succ (k : Int) (L : List Int) (i : Nat) (h : i < L.length) : eqc k (L.take (i + 1)) = eqc k (L.take i) + (if L[i] = k then 1 else 0) := by
  rw [List.take_succ_eq_append_getElem h, eqc_append]; simp [eqc]
theorem eqc_bd (k : Int) (L : List Int) : 0 ≤ eqc k L ∧ eqc k L ≤ L.length := by
  induction L with
  | nil => simp [eqc]
  | cons x r ih => simp only [eqc, List.length_cons]; split <;> omega
theorem eqc_cnt (k : Int) (L : List Int) : eqc k L = cnt k L - cnt (k + 1) L := by
  induction L with
  | nil => simp [eqc, cnt]
  | cons x r ih => simp only [eqc, cnt, ih]; (repeat' split) <;> omega
def tim (L : List Int) : List Int := (List.range (L.headD 0).toNat).map fun (j : Nat) => eqc ((j : Int) + 1) L
theorem tim_len (L : List Int) : (tim L).length = (L.headD 0).toNat := by simp [tim]
theorem tim_get (L : List Int) (k : Nat) (h : k < (tim L).length) : (tim L)[k] = eqc ((k : Int) + 1) L := by simp [tim]
def timF (L : List Int) : List Int := if valid L then tim L else []
theorem timF_yes {L : List Int} (h : valid L = true) : timF L = tim L := by simp [timF, h]
theorem timF_no {L : List Int} (h : valid L = false) : timF L = [] := by simp [timF, h]
theorem timF_len (L : List Int) : (timF L).length ≤ 16 := by
  unfold timF
  split
  · rename_i h
    rw [tim_len]
    have := headD_bd h
    omega
  · simp
def tacc (L : List Int) (H k : Nat) : List Int := (List.range H).map fun (j : Nat) => eqc ((j : Int) + 1) (L.take k)
theorem tacc_len (L : List Int) (H k : Nat) : (tacc L H k).length = H := by simp [tacc]
theorem tacc_get (L : List Int) (H k j : Nat) (h : j < (tacc L H k).length) : (tacc L H k)[j] = eqc ((j : Int) + 1) (L.take k) := by simp [tacc]
theorem tacc_zero (L : List Int) (H : Nat) : tacc L H 0 = List.replicate H 0 := by
  apply List.ext_getElem
  · simp [tacc]
  · intro j h1 h2
    rw [tacc_get]
    simp [eqc]
theorem tacc_set (L : List Int) (H k m : Nat) (hk : k < L.length) (hm : L[k] = (m : Int) + 1) : (tacc L H k).set m (eqc ((m : Int) + 1) (L.take k) + 1) = tacc L H (k + 1) := by
  apply List.ext_getElem
  · simp [tacc]
  · intro j h1 h2
    rw [tacc_get, eqc_take_succ _ L k hk]
    by_cases hj : m = j
    · subst hj
      rw [List.getElem_set_self, if_pos hm]
    · rw [List.getElem_set_ne hj, tacc_get, if_neg (by omega)]
      omega
theorem tacc_end (L : List Int) : tacc L (L.headD 0).toNat L.length = tim L := by
  unfold tacc tim
  rw [List.take_of_length_le (Nat.le_refl _)]
/-- the indices of the corners -/
def isC (L : List Int) (i : Nat) : Bool := decide (i + 1 = L.length) || decide (L.getD (i + 1) 0 < L.getD i 0)
def crnTo (L : List Int) (n : Nat) : List Int := ((List.range n).filter (isC L)).map Int.ofNat
def crn (L : List Int) : List Int := crnTo L L.length
theorem crnTo_succ (L : List Int) (n : Nat) : crnTo L (n + 1) = crnTo L n ++ if isC L n then [(n : Int)] else [] := by
  unfold crnTo
  rw [List.range_succ, List.filter_append, List.map_append]
  congr 1
  cases h : isC L n <;> simp [h]
theorem crnTo_len (L : List Int) (n : Nat) : (crnTo L n).length ≤ n := by
  unfold crnTo
  rw [List.length_map]
  exact Nat.le_trans (List.length_filter_le _ _) (by simp)
def crnF (L : List Int) : List Int := if valid L then crn L else []
theorem crnF_yes {L : List Int} (h : valid L = true) : crnF L = crn L := by simp [crnF, h]
theorem crnF_no {L : List Int} (h : valid L = false) : crnF L = [] := by simp [crnF, h]
theorem crnF_len (L : List Int) : (crnF L).length ≤ 16 := by
  unfold crnF
  split
  · rename_i h
    exact Nat.le_trans (crnTo_len L _) (valid_bd h).2.2.2
  · simp
end NP
end Go.Proofs.YtmlomapifldlpaaDoor
