/-
  Walks of the program: how many diagrams with a sum have a measure that leaves each remainder.
-/
import Derived.Test.YtcjnmconehfbgaaW59
import Derived.Test.YtcjnmconehfbgaaW103
namespace Go.Proofs.Ytcjnmconehfbgaa
open Go.RowKit Go.Shelf NP
set_option maxRecDepth 8000
set_option linter.unusedVariables false
set_option linter.unusedSimpArgs false
attribute [local go_sem] Oper.semAt_some
def bump (row : List Int) (r : Nat) : List Int := row.set r (row.getD r 0 + 1)
/-- how many numbers leave each remainder when divided by m -/
def sprd (m : Nat) (rs : List Int) : List Int := rs.foldl (fun row r => bump row (r % (m : Int)).toNat) (List.replicate m 0)
theorem sprd_snoc (m : Nat) (rs : List Int) (r : Int) : sprd m (rs ++ [r]) = bump (sprd m rs) (r % (m : Int)).toNat := by
  unfold sprd; rw [List.foldl_append]; rfl
theorem bump_len (row : List Int) (r : Nat) : (bump row r).length = row.length := by simp [bump]
theorem sprd_all (m : Nat) : ∀ (rs row : List Int) (k : Nat), (∀ x ∈ row, 0 ≤ x ∧ x ≤ (k : Int)) → (rs.foldl (fun row r => bump row (r % (m : Int)).toNat) row).length = row.length ∧ ∀ x ∈ rs.foldl (fun row r => bump row (r % (m : Int)).toNat) row, 0 ≤ x ∧ x ≤ (k : Int) + rs.length := by
  intro rs
  induction rs with
  | nil => intro row k h; exact ⟨rfl, fun x hx => by have := h x hx; simp; omega⟩
  | cons r rs ih =>
    intro row k h
    have hb : ∀ x ∈ bump row (r % (m : Int)).toNat, 0 ≤ x ∧ x ≤ ((k + 1 : Nat) : Int) := by
      intro x hx
      unfold bump at hx
      rcases List.mem_or_eq_of_mem_set hx with h1 | h1
      · have := h x h1; omega
      · subst h1
        by_cases hr : (r % (m : Int)).toNat < row.length
        · have e : row.getD (r % (m : Int)).toNat 0 = row[(r % (m : Int)).toNat] := by simp [List.getD_eq_getElem?_getD, hr]
          rw [e]
          have := h _ (List.getElem_mem hr)
          omega
        · have e : row.getD (r % (m : Int)).toNat 0 = 0 := by simp [List.getD_eq_getElem?_getD, List.getElem?_eq_none (Nat.le_of_not_lt hr)]
          rw [e]; omega
    obtain ⟨h1, h2⟩ := ih _ (k + 1) hb
    rw [List.foldl_cons]
    refine ⟨by rw [h1, bump_len], fun x hx => ?_⟩
    have := h2 x hx
    rw [List.length_cons]
    omega
theorem sprd_len (m : Nat) (rs : List Int) : (sprd m rs).length = m := by
  have := (sprd_all m rs (List.replicate m 0) 0 (fun x hx => by rw [(List.mem_replicate.1 hx).2]; simp)).1
  unfold sprd; simpa using this
theorem sprd_bd (m : Nat) (rs : List Int) : ∀ x ∈ sprd m rs, 0 ≤ x ∧ x ≤ (rs.length : Int) := by
  have := (sprd_all m rs (List.replicate m 0) 0 (fun x hx => by rw [(List.mem_replicate.1 hx).2]; simp)).2
  unfold sprd; simpa using this
theorem rem_bd (r : Int) (m : Nat) (hm : 1 ≤ m) : 0 ≤ r % (m : Int) ∧ r % (m : Int) < m := ⟨Int.emod_nonneg _ (by omega), Int.emod_lt_of_pos _ (by omega)⟩
theorem tmod_bd (r : Int) (m : Nat) (hm : 1 ≤ m) : -(m : Int) < Int.tmod r m ∧ Int.tmod r m < m := by
  have h1 := Int.tmod_lt_of_pos r (show (0 : Int) < m by omega)
  have h2 := Int.lt_tmod_of_pos r (show (0 : Int) < m by omega)
  omega
theorem tmod_twice (r : Int) (m : Nat) (hm : 1 ≤ m) : Int.tmod (Int.tmod r m + m) m = r % (m : Int) := by
  have h := tmod_bd r m hm
  rw [Int.tmod_eq_emod_of_nonneg (show (0 : Int) ≤ Int.tmod r m + m by omega), Int.add_emod_right]
  have h1 := Int.tmod_add_mul_tdiv r m
  conv => rhs; rw [← h1]
  rw [Int.add_mul_emod_self_left]
theorem wrap_id (x : Int) (h : -100000 ≤ x) (h2 : x ≤ 100000) : IntKind.i64.wrap x = x := by unfold IntKind.wrap; simp [IntKind.signed, IntKind.bits]; omega
theorem remainder_any (r : Int) (m : Nat) (hm : 1 ≤ m) (hm2 : m ≤ 16) (w : World) :
    Calls Try.prog 75 #[.int .i64 r, .int .i64 (m : Int)] w fun e w' => e = .returned (.int .i64 (r % (m : Int))) ∧ w = w' := by
  have hb := tmod_bd r m hm
  have hb2 := rem_bd r m hm
  have h2 := tmod_twice r m hm
  obtain ⟨q, hq⟩ : ∃ q, Int.tmod r m = q := ⟨_, rfl⟩
  obtain ⟨p, hp⟩ : ∃ p, r % (m : Int) = p := ⟨_, rfl⟩
  rw [hq] at hb h2
  rw [hp] at hb2 h2 ⊢
  have hm0 : (m : Int) ≠ 0 := by omega
  go_enter Try.func75, Try.ntmps75
  go_wp2
  go_ret
  exact ⟨rfl, rfl⟩
/-- a function value that tells of each diagram of parts a number, in every later world -/
def IsM (w : World) (v : Value) (f : List Int → Int) : Prop := ∃ (g : Nat) (p c : Array Value), v = .func (.func g) p c ∧ (∀ (args : Array Value) (w : World), (callFunc g args).run Try.prog w = .ok (.enter g args) w) ∧ ∀ w1, Below w.heap.size w w1 → ∀ L, valid L = true →
  Calls Try.prog g (p.push (.agg (arr (pad L))) ++ c) w1 fun e w2 => e = .returned (.int .i64 (f L)) ∧ Below w1.heap.size w1 w2
/-- the memory of a round: the number m, the measure, the row of counts and its place -/
def IS (w : World) (m : Nat) (f : List Int → Int) (fv : Value) (pre : List VL) (W : World) : Prop :=
  Blk W w.heap.size 3 #[.int .i64 (m : Int)] ∧ Blk W (w.heap.size + 1) 51 #[fv] ∧ Blk W (w.heap.size + 2) 3 (arr (sprd m (pre.map fun x => f x.1))) ∧ Blk W (w.heap.size + 3) 22 #[.slice (some ⟨w.heap.size + 2, 0, none⟩) m m] ∧ Below w.heap.size w W
theorem is_from (w : World) (m : Nat) (f : List Int → Int) (fv : Value) (B : Nat) (hB : w.heap.size ≤ B) : OwnFrom B (IS w m f fv) := by
  rintro s W W' row ⟨h1, h2, h3, h4, h5⟩ hg hr
  have ne : ∀ (g : Nat) (cs : Array Value) (t : TypeId), W.heap[g]? = some (.cells cs t (0, 0)) → some g ≠ row := fun g cs t hc e => by
    obtain ⟨_, o, ho, hc'⟩ := hr g e.symm
    rw [hc] at ho; injection ho with ho; subst ho; simp [Obj.isCells] at hc'
  exact ⟨h1.grown hg (ne _ _ _ h1), h2.grown hg (ne _ _ _ h2), h3.grown hg (ne _ _ _ h3), h4.grown hg (ne _ _ _ h4), h5.grown hg h5.size (fun k e => Nat.le_trans hB (hr k e).1)⟩
theorem is_abt (w : World) (m : Nat) (f : List Int → Int) (fv : Value) (B : Nat) (hB : w.heap.size ≤ B) : AbT B 54 (IS w m f fv) := by
  refine ⟨?_, ?_, ?_⟩
  · rintro s W o ⟨h1, h2, h3, h4, h5⟩
    exact ⟨h1.alloc o, h2.alloc o, h3.alloc o, h4.alloc o, h5.alloc h5.size o⟩
  · rintro s W n ⟨h1, h2, h3, h4, h5⟩
    exact ⟨h1, h2, h3, h4, h5.trans ((Dr.n W n).below _)⟩
  · rintro s W b i u cs fr ⟨h1, h2, h3, h4, h5⟩ hb hc
    have ne : ∀ (g : Nat) (cs' : Array Value) (t : TypeId), t ≠ 54 → W.heap[g]? = some (.cells cs' t (0, 0)) → g ≠ b := fun g cs' t ht hg e => by
      subst e; rw [hc] at hg; injection hg with hg; injection hg with _ hg _; exact ht hg.symm
    exact ⟨h1.off (ne _ _ _ (by decide) h1) _, h2.off (ne _ _ _ (by decide) h2) _, h3.off (ne _ _ _ (by decide) h3) _, h4.off (ne _ _ _ (by decide) h4) _, h5.setCell (p := ⟨b, i, none⟩) (Nat.le_trans hB hb) u⟩
theorem is_below {w : World} {m : Nat} {f : List Int → Int} {fv : Value} {pre : List VL} {W W' : World} (h : IS w m f fv pre W) (hb : Below W.heap.size W W') : IS w m f fv pre W' :=
  ⟨h.1.below hb h.1.lt, h.2.1.below hb h.2.1.lt, h.2.2.1.below hb h.2.2.1.lt, h.2.2.2.1.below hb h.2.2.2.1.lt, h.2.2.2.2.trans (hb.mono h.2.2.2.2.size)⟩
/-- the count of one remainder goes up -/
theorem is_bump {w : World} {m : Nat} {f : List Int → Int} {fv : Value} {pre : List VL} {x : VL} {W W' : World} (h : IS w m f fv pre W) (h' : IS w m f fv pre W') (hz : W.heap.size ≤ W'.heap.size) (hkp : ∀ j, j < W.heap.size → W'.heap[j]? = W.heap[j]?) :
    KeepsOthers W (W'.setCell ⟨w.heap.size + 2, (f x.1 % (m : Int)).toNat, none⟩ (.int .i64 ((sprd m (pre.map fun x => f x.1)).getD (f x.1 % (m : Int)).toNat 0 + 1))) ∧ KpT 54 W (W'.setCell ⟨w.heap.size + 2, (f x.1 % (m : Int)).toNat, none⟩ (.int .i64 ((sprd m (pre.map fun x => f x.1)).getD (f x.1 % (m : Int)).toNat 0 + 1))) ∧ IS w m f fv (pre ++ [x]) (W'.setCell ⟨w.heap.size + 2, (f x.1 % (m : Int)).toNat, none⟩ (.int .i64 ((sprd m (pre.map fun x => f x.1)).getD (f x.1 % (m : Int)).toNat 0 + 1))) := by
  obtain ⟨k1, k2, k3, k4, k5⟩ := h
  obtain ⟨h1, h2, h3, h4, h5⟩ := h'
  have hs : ∀ (p : Addr) (u : Value), (W'.setCell p u).heap.size = W'.heap.size := fun p u => by simp [World.setCell]
  have hk : ∀ (i : Nat) (u : Value) j, j < W.heap.size → j ≠ w.heap.size + 2 → (W'.setCell ⟨w.heap.size + 2, i, none⟩ u).heap[j]? = W.heap[j]? := fun i u j hj hne => (Below.heap_setCell W' ⟨w.heap.size + 2, i, none⟩ u j hne).trans (hkp j hj)
  refine ⟨⟨by rw [hs]; exact hz, fun j o hj ho => (hk _ _ j (Array.getElem?_eq_some_iff.1 hj).1 ?_).trans hj⟩, ⟨by rw [hs]; exact hz, fun b cs fr hb => (hk _ _ b (Array.getElem?_eq_some_iff.1 hb).1 ?_).trans hb⟩, ?_⟩
  · rintro rfl
    rw [show W.heap[w.heap.size + 2]? = _ from k3] at hj; injection hj with hj; subst hj; simp [Obj.isCells] at ho
  · rintro rfl
    rw [show W.heap[w.heap.size + 2]? = _ from k3] at hb; injection hb with hb; injection hb with _ hb _; exact absurd hb (by decide)
  · refine ⟨h1.off (by simp) _, h2.off (by simp) _, ?_, h4.off (by simp) _, h5.setCell (p := ⟨w.heap.size + 2, _, none⟩) (by simp) _⟩
    rw [List.map_append, List.map_singleton, sprd_snoc]
    unfold bump
    rw [← arr_set]
    exact h3.set _ _
theorem is_start (w : World) (m : Nat) (f : List Int → Int) (fv : Value) :
    IS w m f fv [] ((((w.alloc (.cells #[.int .i64 (m : Int)] 3)).alloc (.cells #[fv] 51)).alloc (.cells (arr (List.replicate m 0)) 3)).alloc (.cells #[.slice (some ⟨w.heap.size + 1 + 1, 0, none⟩) m m] 22)) := by
  have b1 := Blk.new w 3 #[.int .i64 (m : Int)]
  have b2 := Blk.new (w.alloc (.cells #[.int .i64 (m : Int)] 3)) 51 #[fv]
  have b3 := Blk.new ((w.alloc (.cells #[.int .i64 (m : Int)] 3)).alloc (.cells #[fv] 51)) 3 (arr (List.replicate m 0))
  have b4 := Blk.new (((w.alloc (.cells #[.int .i64 (m : Int)] 3)).alloc (.cells #[fv] 51)).alloc (.cells (arr (List.replicate m 0)) 3)) 22 #[.slice (some ⟨w.heap.size + 1 + 1, 0, none⟩) m m]
  simp only [World.size_alloc] at b1 b2 b3 b4
  exact ⟨((b1.alloc _).alloc _).alloc _, (b2.alloc _).alloc _, b3.alloc _, b4, ((((Below.refl _ _).alloc (Nat.le_refl _) _).alloc (by simp) _).alloc (by simp; omega) _).alloc (by simp; omega) _⟩
def AxS (w : World) (k m : Nat) (fv : Value) (x : VL) (a' : Act) (W : World) : Prop := ∃ Bx, w.heap.size + 1 + 1 + 1 + 1 ≤ Bx ∧ Blk W Bx 54 (arr (pad x.1)) ∧
  a' = { tmps := #[.int .i64 k, .int .i64 m, fv, undef, .pointer (some ⟨w.heap.size, 0, none⟩), .pointer (some ⟨w.heap.size + 1, 0, none⟩), .slice none 0 0, .pointer (some ⟨w.heap.size + 1 + 1 + 1, 0, none⟩), .pointer (some ⟨Bx, 0, none⟩), .int .i64 k,
    .bool false, .bool false, .int .i64 k, .bool false, .bool false, .bool false, .int .i64 m, .bool false, .bool false, .bool false, .int .i64 m, .bool false, .bool false, .int .i64 m, .slice (some ⟨w.heap.size + 1 + 1, 0, none⟩) m m, .int .i64 k,
    .func (.func 91) #[] #[.pointer (some ⟨w.heap.size + 1 + 1 + 1 + 1, 0, none⟩)], .agg (arr (pad x.1)), undef, undef, undef, undef, undef, undef, undef, undef, undef, undef, undef], defers := [] }
set_option maxRecDepth 100000 in
set_option maxHeartbeats 4000000 in
theorem spread_any (k m : Nat) (hk : k ≤ 12) (hm : 1 ≤ m) (hm2 : m ≤ 16) (fv : Value) (f : List Int → Int) (w : World) (hfv : IsM w fv f) :
    Calls Try.prog 49 #[.int .i64 (k : Int), .int .i64 (m : Int), fv] w fun e w' => ∃ a' c', e = .returned (.slice a' m c') ∧ Own w' w.heap.size w'.heap.size 3 (.slice a' m c') (ints (sprd m ((allQ k k k).map f))) ∧ Below w.heap.size w w' := by
  refine (callsIn_wide (n := 6)).1 ?_
  obtain ⟨ff, fp, fc, rfl, he, hh⟩ := hfv
  have hmk := fun w => run_make_ints (P := Try.prog) 22 3 _ Try.underlying22 rfl rfl rfl rfl m (by omega) w
  have d1 : decide ((k : Int) < 0) = false := decide_eq_false (by omega)
  have d2 : decide (12 < (k : Int)) = false := decide_eq_false (by omega)
  have d3 : decide ((m : Int) < 1) = false := decide_eq_false (by omega)
  have d4 : decide (16 < (m : Int)) = false := decide_eq_false (by omega)
  refine callsIn_of_wp_marks Try.func49 rfl trivial ?_ rfl
  simp only [Try.ntmps49, List.size_toArray, List.length_cons, List.length_nil, Nat.reduceAdd, Nat.reduceSub, Array.replicate_succ, Array.replicate_zero, List.push_toArray, List.append_toArray, List.nil_append, List.cons_append]
  gi_wp2_with ((refine ⟨trivial, ?_⟩; gi_at_call 74; refine (dwith_in Fence.wide _ trivial rfl _ _).mono ?_; rintro e w' ⟨rfl, rfl⟩))
  obtain ⟨W1, hW1⟩ : ∃ W1, ((((w.alloc (.cells #[.int .i64 m] 3)).alloc (.cells #[.func (.func ff) fp fc] 51)).alloc (.cells (arr (List.replicate m 0)) 3)).alloc (.cells #[.slice (some ⟨w.heap.size + 1 + 1, 0, none⟩) m m] 22)) = W1 := ⟨_, rfl⟩
  rw [hW1]
  have hs1 : W1.heap.size = w.heap.size + 1 + 1 + 1 + 1 := by rw [← hW1]; simp
  have hI1 : IS w m f (.func (.func ff) fp fc) [] W1 := by rw [← hW1]; exact is_start w m f _
  have hI0 : IS w m f (.func (.func ff) fp fc) [] (W1.alloc (.cells #[.int .i64 (k : Int)] 3)) := is_below hI1 ((Below.refl _ _).alloc (Nat.le_refl _) _)
  have hbn : (W1.alloc (.cells #[.int .i64 (k : Int)] 3)).cell? ⟨w.heap.size + 1 + 1 + 1 + 1, 0, none⟩ = some (.int .i64 k) := by
    rw [← hs1, (Blk.new W1 3 #[.int .i64 (k : Int)]).cell 0]; rfl
  obtain ⟨W0, hW0⟩ : ∃ W0, W1.alloc (.cells #[.int .i64 (k : Int)] 3) = W0 := ⟨_, rfl⟩
  have hs0 : W0.heap.size = w.heap.size + 5 := by rw [← hW0]; simp [hs1]
  rw [hW0] at hI0 hbn ⊢
  clear hI1 hW1 hs1 hW0 hmk d1 d2 d3 d4
  refine wpIn_range_T 54 rfl (by omega) (gf := 91) (lb := #[.pointer (some ⟨w.heap.size + 1 + 1 + 1 + 1, 0, none⟩)]) rfl trivial (enters_of Try.func91 (by kernel_rfl) rfl)
    (dwith_seq Fence.wide rfl trivial trivial rfl (6 - 1) k (w.heap.size + 1 + 1 + 1 + 1) (by omega) W0 (by omega) hbn) (Below.refl _ _) (fun _ => rfl)
    (IS w m f (.func (.func ff) fp fc)) (fun _ _ _ => False) (is_from w m f _ _ (by omega)) (fun _ _ _ _ _ h _ _ => h) (is_abt w m f _ _ (by omega)) (fun _ => ⟨fun _ _ _ h => h, fun _ _ _ h => h, fun _ _ _ _ _ _ _ h _ _ => h⟩) hI0
    (AxS w k m (.func (.func ff) fp fc)) ?hax ?assign ?body ?done ?stop
  case hax =>
    rintro a' s W W' row ⟨Bx, hBx, hb, rfl⟩ hg hr
    refine ⟨Bx, hBx, hb.grown hg (fun e => ?_), rfl⟩
    obtain ⟨_, o, ho, hc⟩ := hr Bx e.symm
    rw [show W.heap[Bx]? = _ from hb] at ho; injection ho with ho; subst ho; simp [Obj.isCells] at hc
  case assign =>
    intro l pre x W K hi hK
    have hlen : x.1.length ≤ 16 := (valid_bd x.2).2.2.2
    have hi16 : (Try.prog.info? 54).map (·.size) = some (arr (pad x.1)).size := by rw [arr_size, pad_len hlen]; exact T_info35
    have hszx : (arr (pad x.1)).size = (arr (List.replicate 16 0)).size := by rw [arr_size, arr_size, pad_len hlen]; rfl
    have hbz := Blk.new W 54 (arr (List.replicate 16 0))
    have hbw : Below W.heap.size W ((W.alloc (.cells (arr (List.replicate 16 0)) 54)).setRow W.heap.size (arr (pad x.1))) := below_setRow' ((Below.refl _ _).alloc (Nat.le_refl _) _) (Nat.le_refl _) _
    have hlt := hi.2.2.2.1.lt
    gi_wp2_with (refine wpListIn_store_row rfl 54 (.tmp 8) (.tmp 27) rfl W.heap.size (arr (pad x.1)) rfl rfl (run_storeVar_row _ W.heap.size 54 54 _ _ hbz hi16 hszx (arr_one _)) ?_)
    exact hK _ _ (ko_below hbw) (KpT.below hbw) (is_below hi hbw) ⟨W.heap.size, by omega, hbz.row, rfl⟩
  case body =>
    rintro l pre x a' W hIS ⟨Bx, hBx, hbx, rfl⟩ hlen
    have hpl : x.1.length ≤ 16 := (valid_bd x.2).2.2.2
    have hi16 : (Try.prog.info? 54).map (·.size) = some (arr (pad x.1)).size := by rw [arr_size, pad_len hpl]; exact T_info35
    have hmx : Try.prog.follows .mixedOrders = true := by kernel_rfl
    have hrb := rem_bd (f x.1) m hm
    obtain ⟨r, hr⟩ : ∃ r : Nat, f x.1 % (m : Int) = (r : Int) := ⟨(f x.1 % (m : Int)).toNat, by omega⟩
    have hrm : r < m := by omega
    have hprn : pre.length ≤ 1000 := by have := allQ_len (k := k) (by omega); omega
    have hlr := sprd_len m (pre.map fun x => f x.1)
    have hbr := sprd_bd m (pre.map fun x => f x.1)
    have hbump := @is_bump w m f (.func (.func ff) fp fc) pre x
    rw [hr, Int.toNat_natCast] at hbump
    obtain ⟨row, hrow⟩ : ∃ row, sprd m (pre.map fun x => f x.1) = row := ⟨_, rfl⟩
    rw [hrow] at hlr hbr hbump
    have hv : row.getD r 0 = row[r] := by simp [List.getD_eq_getElem?_getD, hlr, hrm]
    have hvb := hbr _ (List.getElem_mem (show r < row.length by omega))
    rw [hv] at hbump
    obtain ⟨v, hvv⟩ : ∃ v, row[r] = v := ⟨_, rfl⟩
    rw [hvv] at hbump hvb
    rw [List.length_map] at hvb
    have hv0 : 0 ≤ v := hvb.1
    have hv1 : v ≤ 1000 := by omega
    have hwr := wrap_id (v + 1) (by omega) (by omega)
    gi_wp2
    refine wpIn_region_any hmx ?_
    have vok : (∃ y, { W with drawn := W.drawn + 1 } = y ∧ Below W.heap.size W y) := ⟨_, rfl, (Dr.n W 1).below _⟩
    obtain ⟨y, hy, hyb⟩ := vok
    rw [hy]
    clear hy
    refine wpAnyIn_vals [0, 1, 2, 3, 4, 5, 6, 7, 8, 9] [.slice (some ⟨w.heap.size + 1 + 1, 0, none⟩) m m, .func (.func ff) fp fc, .agg (arr (pad x.1)), .int .i64 (f x.1), .int .i64 m, .int .i64 r, .pointer (some ⟨w.heap.size + 1 + 1, r, none⟩), .int .i64 v, .int .i64 (v + 1), .pointer (some ⟨w.heap.size + 1 + 1, r, none⟩)] (fun w' => Below W.heap.size W w') _ _ y rfl (by kernel_rfl) (by kernel_rfl) hyb _ rfl rfl ?steps ?rest
    case steps =>
      simp only [putsOf, Act.put, List.getElem?_toArray, List.getElem?_cons_succ, List.getElem?_cons_zero, Option.bind_some, Nat.reduceAdd, List.setIfInBounds_toArray, List.set_cons_zero, List.set_cons_succ]
      refine Steps.cons rfl (fun wq hS => ?_) ?_
      · have hc : wq.cell? ⟨w.heap.size + 1 + 1 + 1, 0, none⟩ = some (.slice (some ⟨w.heap.size + 1 + 1, 0, none⟩) m m) := (is_below hIS hS).2.2.2.1.cell 0
        exact opIn_val (by simp [Oper.about]) (by go_simp) ⟨rfl, hS⟩
      refine Steps.cons rfl (fun wq hS => ?_) ?_
      · have hc : wq.cell? ⟨w.heap.size + 1, 0, none⟩ = some (.func (.func ff) fp fc) := (is_below hIS hS).2.1.cell 0
        exact opIn_val (by simp [Oper.about]) (by go_simp) ⟨rfl, hS⟩
      refine Steps.cons rfl (fun wq hS => ?_) ?_
      · have hld := run_loadVar_row wq Bx 54 54 (arr (pad x.1)) (0, 0) _ (hbx.below hS hbx.lt) Try.underlying54 rfl hi16
        exact opIn_loadv 54 (.tmp 8) rfl ⟨Bx, 0, none⟩ rfl hld ⟨rfl, hS⟩
      refine Steps.cons rfl (fun wq hS => ?_) ?_
      · go_simp
        refine ⟨trivial, ?_⟩
        refine (CallsIn.inRound l (callsIn_wide.2 (hh wq (hIS.2.2.2.2.trans (hS.mono hIS.2.2.2.2.size)) x.1 x.2))).mono ?_
        rintro e W2 ⟨rfl, hb2⟩
        exact ⟨rfl, hS.trans (hb2.mono hS.size)⟩
      refine Steps.cons rfl (fun wq hS => ?_) ?_
      · have hc : wq.cell? ⟨w.heap.size, 0, none⟩ = some (.int .i64 m) := (is_below hIS hS).1.cell 0
        exact opIn_val (by simp [Oper.about]) (by go_simp) ⟨rfl, hS⟩
      refine Steps.cons rfl (fun wq hS => ?_) ?_
      · go_simp
        refine ⟨trivial, ?_⟩
        gi_at_call 75
        refine (CallsIn.inRound l (callsIn_wide.2 (remainder_any (f x.1) m hm hm2 wq))).mono ?_
        rintro e W2 ⟨rfl, rfl⟩
        rw [hr]
        exact ⟨rfl, hS⟩
      refine Steps.cons rfl (fun wq hS => ?_) ?_
      · exact opIn_val (by simp [Oper.about]) (by go_simp) ⟨rfl, hS⟩
      refine Steps.cons rfl (fun wq hS => ?_) ?_
      · have hc : wq.cell? ⟨w.heap.size + 1 + 1, r, none⟩ = some (.int .i64 v) := by
          rw [(is_below hIS hS).2.2.1.cell r, hrow, arr_get _ _ (by omega), hvv]
        exact opIn_val (by simp [Oper.about]) (by go_simp) ⟨rfl, hS⟩
      refine Steps.cons rfl (fun wq hS => ?_) ?_
      · exact opIn_val (by simp [Oper.about]) (by go_simp) ⟨rfl, hS⟩
      refine Steps.cons rfl (fun wq hS => ?_) Steps.nil
      · exact opIn_val (by simp [Oper.about]) (by go_simp) ⟨rfl, hS⟩
    case rest =>
      intro wq hS
      simp only [putsOf, Act.put, List.getElem?_toArray, List.getElem?_cons_succ, List.getElem?_cons_zero, Option.bind_some, Nat.reduceAdd, List.setIfInBounds_toArray, List.set_cons_zero, List.set_cons_succ]
      refine wpAnyIn_ready (rs := [10]) (by kernel_rfl) (by simp) ?_
      refine AllReadyIn.cons rfl (fun K hK => ?_) AllReadyIn.nil
      rw [if_pos (by rfl)]
      have hISq := is_below hIS hS
      have hc : wq.cell? ⟨w.heap.size + 1 + 1, r, none⟩ = some (.int .i64 v) := by
        rw [hISq.2.2.1.cell r, hrow, arr_get _ _ (by omega), hvv]
      have hfz := hISq.2.2.1.free r
      refine opIn_store 3 (.tmp 37) (.tmp 36) rfl ⟨w.heap.size + 1 + 1, r, none⟩ rfl (w' := wq.setCell ⟨w.heap.size + 1 + 1, r, none⟩ (.int .i64 (v + 1))) (by have hq := hc; have hq' : wq.frozen? ⟨w.heap.size + 1 + 1, r, none⟩ = false := hfz; go_simp) ?_
      refine hK _ _ ?_
      clear hK K
      refine wpAnyIn_done (by kernel_rfl) ?_ _
      exact hbump hIS hISq hS.size (fun j hj => hS.block j hj)
  case done => 
    rintro D ys W hD hS hIS hK
    have hIS2 := (is_from w m f (.func (.func ff) fp fc) w.heap.size (Nat.le_refl _)).putObj (.deferred none) hIS (by omega) hK rfl
    obtain ⟨h1, h2, h3, h4, hB⟩ := hIS
    obtain ⟨-, -, h32, h42, hB2⟩ := hIS2
    have c7 : W.cell? ⟨w.heap.size + 1 + 1 + 1, 0, none⟩ = some (.slice (some ⟨w.heap.size + 1 + 1, 0, none⟩) m m) := h4.cell 0
    gi_wp2
    refine ⟨by simp, .inl ⟨_, _, rfl, run_takeDeferred hK, ?_⟩⟩
    have hmap : (ys.map fun x => f x.1) = (allQ k k k).map f := by rw [← hS, List.map_map]; rfl
    rw [hmap] at h32
    have hown := h32.own (lo := w.heap.size) (by omega) (by rw [List.length_map, sprd_len]; unfold maxLen; omega)
    rw [List.length_map, sprd_len] at hown
    exact ⟨_, results_tmp rfl _ _ _, _, m, rfl, hown, hB2⟩
  case stop =>
    rintro D c pre W _ _ h _
    exact h.elim
end Go.Proofs.Ytcjnmconehfbgaa
