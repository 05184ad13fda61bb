/-
  Walks of the program: parts of a kind led a way.
-/
import Derived.Test.YtdoihndifaebcaaW29
import Derived.Shelf.Abstract
namespace Go.Proofs.Ytdoihndifaebcaa
open Go.RowKit NP
set_option linter.unusedVariables false
set_option linter.unusedSimpArgs false

/-- a function value that tells of each diagram of parts whether K holds of them, in every later world -/
def IsK (w : World) (v : Value) (K : List Int → Bool) : Prop := ∃ (f : Nat) (p c : Array Value), v = .func (.func f) p c ∧ (∀ (args : Array Value) (w : World), (callFunc f args).run Try.prog w = .ok (.enter f args) w) ∧ ∀ w1, Below w.heap.size w w1 → ∀ L, valid L = true →
  Calls Try.prog f (p.push (.agg (arr (pad L))) ++ c) w1 fun e w2 => e = .returned (.bool (K L)) ∧ Below w1.heap.size w1 w2
/-- a function value that leads each diagram of parts of which K holds to that of the parts F, in every later world -/
def IsWay (w : World) (v : Value) (K : List Int → Bool) (F : List Int → List Int) : Prop := ∃ (f : Nat) (p c : Array Value), v = .func (.func f) p c ∧ (∀ (args : Array Value) (w : World), (callFunc f args).run Try.prog w = .ok (.enter f args) w) ∧ ∀ w1, Below w.heap.size w w1 → ∀ L, valid L = true → K L = true →
  Calls Try.prog f (p.push (.agg (arr (pad L))) ++ c) w1 fun e w2 => e = .returned (.agg (arr (pad (F L)))) ∧ Below w1.heap.size w1 w2
theorem IsK.below {w w' : World} {v : Value} {K : List Int → Bool} (h : IsK w v K) (hb : Below w.heap.size w w') : IsK w' v K := by
  obtain ⟨f, p, c, rfl, he, hh⟩ := h
  exact ⟨f, p, c, rfl, he, fun w1 h1 => hh w1 (hb.trans (h1.mono hb.size))⟩
theorem IsWay.below {w w' : World} {v : Value} {K : List Int → Bool} {F : List Int → List Int} (h : IsWay w v K F) (hb : Below w.heap.size w w') : IsWay w' v K F := by
  obtain ⟨f, p, c, rfl, he, hh⟩ := h
  exact ⟨f, p, c, rfl, he, fun w1 h1 => hh w1 (hb.trans (h1.mono hb.size))⟩
theorem IsWay.at_ {w : World} {v : Value} {K : List Int → Bool} {F : List Int → List Int} (h : IsWay w v K F) (L : List Int) : IsWay w v (fun M => decide (M = L) && K M) F := by
  obtain ⟨f, p, c, rfl, he, hh⟩ := h
  exact ⟨f, p, c, rfl, he, fun w1 h1 M hv hk => hh w1 h1 M hv (by simp at hk; exact hk.2)⟩
def mpOk (K : List Int → Bool) (L : List Int) : Bool := valid L && K L
def mpF (K : List Int → Bool) (F : List Int → List Int) (L : List Int) : List Int := if mpOk K L then F L else []

set_option maxRecDepth 4000 in
set_option maxHeartbeats 2000000 in
theorem mapped_any (a : Option Addr) (c B : Nat) (L : List Int) (v1 v2 : Value) (K : List Int → Bool) (F : List Int → List Int) (hF : valid L = true → K L = true → valid (F L) = true) (w : World) (hK : IsK w v1 K) (hW : IsWay w v2 (fun M => decide (M = L) && K M) F) (h : Rd w B a (ints L)) (hB : B ≤ w.heap.size) (hl : L.length ≤ 4611686018427387904) :
    Calls Try.prog 49 #[.slice a L.length c, v1, v2] w fun e w' => ∃ a' c', e = .returned (.tuple #[.slice a' (mpF K F L).length c', .bool (mpOk K L)]) ∧ Own w' w.heap.size w'.heap.size 3 (.slice a' (mpF K F L).length c') (ints (mpF K F L)) ∧ Below w.heap.size w w' := by
  obtain ⟨f1, p1, c1, rfl, he1, hK1⟩ := hK
  obtain ⟨f2, p2, c2, rfl, he2, hW1⟩ := hW
  have hiD : (Try.prog.info? 55).map (·.size) = some (arr (dg L)).size := by rw [arr_size, dg_len]; exact T_info35
  have hsD : (arr (dg L)).size = (arr (List.replicate 16 0)).size := by rw [arr_size, arr_size, dg_len]; rfl
  cases hv : valid L with
  | false =>
    have HV := Lib.hid hv
    have ho : mpOk K L = false := by simp [mpOk, hv]
    have hf : mpF K F L = [] := by simp [mpF, ho]
    rw [ho, hf]
    clear ho hf hv
    go_enter Try.func49, Try.ntmps49
    go_wp2_with (first
      | (go_at_call 61; refine (diagramOf_any _ _ B L _ h hB hl).mono ?_; rintro e w1 ⟨rfl, hb1⟩; rw [HV.out]; have hB1 := Blk.new w1 55 (arr (List.replicate 16 0)))
      | (refine wpList_store_row rfl 55 (.tmp 8) (.tmp 13) rfl w1.heap.size rfl (arr (dg L)) rfl 55 (arr (List.replicate 16 0)) hB1 hiD hsD (arr_one _) ?_))
    go_ret2
    exact ⟨none, 0, rfl, own_nil0 _ _ _, below_setRow' (hb1.alloc hb1.size _) hb1.size _⟩
  | true =>
    have HV := Lib.hid hv
    have hdg : dg L = pad L := dg_yes hv
    have hl16 := (valid_bd hv).2.2.2
    have hiL : (Try.prog.info? 55).map (·.size) = some (arr (pad L)).size := by rw [arr_size, pad_len hl16]; exact T_info35
    rw [hdg] at hsD hiD
    have HDG := Lib.hid hdg
    clear hdg
    cases hk : K L with
    | false =>
      have ho : mpOk K L = false := by simp [mpOk, hk]
      have hf : mpF K F L = [] := by simp [mpF, ho]
      have HK := Lib.hid hk
      rw [ho, hf]
      clear ho hf hv hk
      go_enter Try.func49, Try.ntmps49
      go_wp2_with (first
        | (go_at_call 61; refine (diagramOf_any _ _ B L _ h hB hl).mono ?_; rintro e w1 ⟨rfl, hb1⟩; rw [HV.out, HDG.out]; have hB1 := Blk.new w1 55 (arr (List.replicate 16 0)))
        | (refine wpList_load_row_g rfl 55 (.tmp 8) rfl w1.heap.size rfl 55 (arr (pad L)) (0, 0) _ hB2 Try.underlying55 rfl hiL ?_)
        | (refine wpList_store_row rfl 55 (.tmp 8) (.tmp 13) rfl w1.heap.size rfl (arr (pad L)) rfl 55 (arr (List.replicate 16 0)) (Blk.new w1 _ _) hiD hsD (arr_one _) ?_; have hB2 := (Blk.new w1 55 (arr (List.replicate 16 0))).row (vs := arr (pad L)); have hbel2 : Below w.heap.size w ((w1.alloc (.cells (arr (List.replicate 16 0)) 55)).setRow w1.heap.size (arr (pad L))) := below_setRow' (hb1.alloc hb1.size _) (by exact hb1.size) _; obtain ⟨w2, hw2⟩ : ∃ w2, w2 = (w1.alloc (.cells (#[.int .i64 0, .int .i64 0, .int .i64 0, .int .i64 0, .int .i64 0, .int .i64 0, .int .i64 0, .int .i64 0, .int .i64 0, .int .i64 0, .int .i64 0, .int .i64 0, .int .i64 0, .int .i64 0, .int .i64 0, .int .i64 0]) 55)).setRow w1.heap.size (arr (pad L)) := ⟨_, rfl⟩; rw [← hw2]; replace hB2 : Blk w2 w1.heap.size 55 (arr (pad L)) := hw2 ▸ hB2; replace hbel2 : Below w.heap.size w w2 := hw2 ▸ hbel2; clear hw2)
        | (refine (hK1 _ hbel2 L HV.out).mono ?_; rintro e w3 ⟨rfl, hb3⟩; rw [HK.out]))
      go_ret2
      exact ⟨none, 0, rfl, own_nil0 _ _ _, hbel2.trans (hb3.mono hbel2.size)⟩
    | true =>
      have ho : mpOk K L = true := by simp [mpOk, hk, hv]
      have hf : mpF K F L = F L := by simp [mpF, ho]
      have HK := Lib.hid hk
      have HVF := Lib.hid (hF hv hk)
      rw [ho, hf]
      clear ho hf hv hk
      go_enter Try.func49, Try.ntmps49
      go_wp2_with (first
        | (go_at_call 61; refine (diagramOf_any _ _ B L _ h hB hl).mono ?_; rintro e w1 ⟨rfl, hb1⟩; rw [HV.out, HDG.out]; have hB1 := Blk.new w1 55 (arr (List.replicate 16 0)))
        | (refine wpList_load_row_g rfl 55 (.tmp 8) rfl w1.heap.size rfl 55 (arr (pad L)) (0, 0) _ hB2 Try.underlying55 rfl hiL ?_)
        | (refine wpList_store_row rfl 55 (.tmp 8) (.tmp 13) rfl w1.heap.size rfl (arr (pad L)) rfl 55 (arr (List.replicate 16 0)) (Blk.new w1 _ _) hiD hsD (arr_one _) ?_; have hB2 := (Blk.new w1 55 (arr (List.replicate 16 0))).row (vs := arr (pad L)); have hbel2 : Below w.heap.size w ((w1.alloc (.cells (arr (List.replicate 16 0)) 55)).setRow w1.heap.size (arr (pad L))) := below_setRow' (hb1.alloc hb1.size _) (by exact hb1.size) _; obtain ⟨w2, hw2⟩ : ∃ w2, w2 = (w1.alloc (.cells (#[.int .i64 0, .int .i64 0, .int .i64 0, .int .i64 0, .int .i64 0, .int .i64 0, .int .i64 0, .int .i64 0, .int .i64 0, .int .i64 0, .int .i64 0, .int .i64 0, .int .i64 0, .int .i64 0, .int .i64 0, .int .i64 0]) 55)).setRow w1.heap.size (arr (pad L)) := ⟨_, rfl⟩; rw [← hw2]; replace hB2 : Blk w2 w1.heap.size 55 (arr (pad L)) := hw2 ▸ hB2; replace hbel2 : Below w.heap.size w w2 := hw2 ▸ hbel2; clear hw2)
        | (refine (hK1 _ hbel2 L HV.out).mono ?_; rintro e w3 ⟨rfl, hb3⟩; rw [HK.out]; have hbel3 := hbel2.trans (hb3.mono hbel2.size); have hB3 := hB2.below hb3 hB2.lt)
        | (refine wpList_load_row rfl 55 (.tmp 8) rfl w1.heap.size rfl 55 (arr (pad L)) (0, 0) _ hB3 Try.underlying55 rfl hiL ?_)
        | (refine (hW1 _ hbel3 L HV.out (show (decide (L = L) && K L) = true from by rw [HK.out]; simp)).mono ?_; rintro e w4 ⟨rfl, hb4⟩; have hbel4 := hbel3.trans (hb4.mono hbel3.size))
        | (go_at_call 86; refine (list_any (F L) HVF.out _).mono ?_; rintro e w5 ⟨a', rfl, ho5, hb5⟩))
      go_ret2
      exact ⟨a', _, rfl, ho5.lower hbel4.size, hbel4.trans (hb5.mono hbel4.size)⟩
end Go.Proofs.Ytdoihndifaebcaa
