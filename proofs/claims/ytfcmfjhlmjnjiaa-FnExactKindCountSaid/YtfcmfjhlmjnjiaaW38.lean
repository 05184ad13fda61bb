/-
  Walks of the program: IsKind.
-/
import Derived.Test.YtfcmfjhlmjnjiaaW32
namespace Go.Proofs.Ytfcmfjhlmjnjiaa
open Go.RowKit NP
set_option linter.unusedVariables false
set_option linter.unusedSimpArgs false
/-- parts of the kind of this name -/
def kindF (s : List UInt8) (L : List Int) : Bool := valid L && (match kindOf s with | some K => K L | none => false)
theorem kindF_none {s : List UInt8} (h : kindOf s = none) (L : List Int) : kindF s L = false := by unfold kindF; rw [h]; simp
theorem kindF_some {s : List UInt8} {K : List Int → Bool} (h : kindOf s = some K) (L : List Int) : kindF s L = (valid L && K L) := by unfold kindF; rw [h]

set_option maxRecDepth 4000 in
set_option maxHeartbeats 2000000 in
theorem iIsKind_any (s : ByteArray) (hs : s.size ≤ maxLen) (a : Option Addr) (c B : Nat) (L : List Int) (w : World) (h : Rd w B a (ints L)) (hB : B ≤ w.heap.size) (hl : L.length ≤ 4611686018427387904) :
    Calls Try.prog 17 #[.string s, .slice a L.length c] w fun e w' => e = .returned (.bool (kindF s.data.toList L)) ∧ Below w.heap.size w w' := by
  have hiD : (Try.prog.info? 58).map (·.size) = some (arr (dg L)).size := by rw [arr_size, dg_len]; exact T_info35
  have hsD : (arr (dg L)).size = (arr (List.replicate 16 0)).size := by rw [arr_size, arr_size, dg_len]; rfl
  cases hk : kindOf s.data.toList with
  | none =>
    rw [kindF_none hk]
    cases hv : valid L with
    | false =>
      have HV := Lib.hid hv
      clear hv
      go_enter Try.func17, Try.ntmps17
      go_wp2_with (first
        | (refine wpList_store_row rfl 58 (.tmp 7) (.tmp 18) rfl w2.heap.size rfl (arr (dg L)) rfl 58 (arr (List.replicate 16 0)) (Blk.new w2 _ _) hiD hsD (arr_one _) ?_; have hB3 := (Blk.new w2 58 (arr (List.replicate 16 0))).row (vs := arr (dg L)); have hbel3 : Below w.heap.size w ((w2.alloc (.cells (arr (List.replicate 16 0)) 58)).setRow w2.heap.size (arr (dg L))) := below_setRow' (hbel2.alloc hbel2.size _) hbel2.size _; have hbl3 : Below w1.heap.size w1 ((w2.alloc (.cells (arr (List.replicate 16 0)) 58)).setRow w2.heap.size (arr (dg L))) := below_setRow' (hb2.alloc hb2.size _) hb2.size _; obtain ⟨w3, hw3⟩ : ∃ w3, w3 = (w2.alloc (.cells (#[.int .i64 0, .int .i64 0, .int .i64 0, .int .i64 0, .int .i64 0, .int .i64 0, .int .i64 0, .int .i64 0, .int .i64 0, .int .i64 0, .int .i64 0, .int .i64 0, .int .i64 0, .int .i64 0, .int .i64 0, .int .i64 0]) 58)).setRow w2.heap.size (arr (dg L)) := ⟨_, rfl⟩; rw [← hw3]; replace hB3 : Blk w3 w2.heap.size 58 (arr (dg L)) := hw3 ▸ hB3; replace hbel3 : Below w.heap.size w w3 := hw3 ▸ hbel3; replace hbl3 : Below w1.heap.size w1 w3 := hw3 ▸ hbl3; clear hw3)
        | (go_at_call 42; refine (diagramOf_any _ _ B L _ (h.below (hb1.mono hB)) (Nat.le_trans hB hb1.size) hl).mono ?_; rintro e w2 ⟨rfl, hb2⟩; rw [HV.out]; have hbel2 := hb1.trans (hb2.mono hb1.size))
        | (go_at_call 33; refine (kindsByName_any _).mono ?_; rintro e w1 ⟨b, n, f, rfl, km, kt, hb1⟩; have kt0 := kt s.data.toList; rw [hk] at kt0; have hlk := km.look_no s hs kt0))
      go_ret
      exact ⟨rfl, hbel3⟩
    | true =>
      have HV := Lib.hid hv
      have hl16 := (valid_bd hv).2.2.2
      rw [dg_yes hv] at hsD hiD
      have HDG := Lib.hid (dg_yes hv)
      clear hv
      go_enter Try.func17, Try.ntmps17
      go_wp2_with (first
        | (refine wpList_store_row rfl 58 (.tmp 7) (.tmp 18) rfl w2.heap.size rfl (arr (pad L)) rfl 58 (arr (List.replicate 16 0)) (Blk.new w2 _ _) hiD hsD (arr_one _) ?_; have hB3 := (Blk.new w2 58 (arr (List.replicate 16 0))).row (vs := arr (pad L)); have hbel3 : Below w.heap.size w ((w2.alloc (.cells (arr (List.replicate 16 0)) 58)).setRow w2.heap.size (arr (pad L))) := below_setRow' (hbel2.alloc hbel2.size _) hbel2.size _; have hbl3 : Below w1.heap.size w1 ((w2.alloc (.cells (arr (List.replicate 16 0)) 58)).setRow w2.heap.size (arr (pad L))) := below_setRow' (hb2.alloc hb2.size _) hb2.size _; obtain ⟨w3, hw3⟩ : ∃ w3, w3 = (w2.alloc (.cells (#[.int .i64 0, .int .i64 0, .int .i64 0, .int .i64 0, .int .i64 0, .int .i64 0, .int .i64 0, .int .i64 0, .int .i64 0, .int .i64 0, .int .i64 0, .int .i64 0, .int .i64 0, .int .i64 0, .int .i64 0, .int .i64 0]) 58)).setRow w2.heap.size (arr (pad L)) := ⟨_, rfl⟩; rw [← hw3]; replace hB3 : Blk w3 w2.heap.size 58 (arr (pad L)) := hw3 ▸ hB3; replace hbel3 : Below w.heap.size w w3 := hw3 ▸ hbel3; replace hbl3 : Below w1.heap.size w1 w3 := hw3 ▸ hbl3; clear hw3)
        | (go_at_call 42; refine (diagramOf_any _ _ B L _ (h.below (hb1.mono hB)) (Nat.le_trans hB hb1.size) hl).mono ?_; rintro e w2 ⟨rfl, hb2⟩; rw [HV.out, HDG.out]; have hbel2 := hb1.trans (hb2.mono hb1.size))
        | (go_at_call 33; refine (kindsByName_any _).mono ?_; rintro e w1 ⟨b, n, f, rfl, km, kt, hb1⟩; have kt0 := kt s.data.toList; rw [hk] at kt0; have hlk := km.look_no s hs kt0))
      go_ret
      exact ⟨rfl, hbel3⟩
  | some K =>
    rw [kindF_some hk]
    cases hv : valid L with
    | false =>
      have HV := Lib.hid hv
      clear hv
      go_enter Try.func17, Try.ntmps17
      go_wp2_with (first
        | (refine wpList_store_row rfl 58 (.tmp 7) (.tmp 18) rfl w2.heap.size rfl (arr (dg L)) rfl 58 (arr (List.replicate 16 0)) (Blk.new w2 _ _) hiD hsD (arr_one _) ?_; have hB3 := (Blk.new w2 58 (arr (List.replicate 16 0))).row (vs := arr (dg L)); have hbel3 : Below w.heap.size w ((w2.alloc (.cells (arr (List.replicate 16 0)) 58)).setRow w2.heap.size (arr (dg L))) := below_setRow' (hbel2.alloc hbel2.size _) hbel2.size _; have hbl3 : Below w1.heap.size w1 ((w2.alloc (.cells (arr (List.replicate 16 0)) 58)).setRow w2.heap.size (arr (dg L))) := below_setRow' (hb2.alloc hb2.size _) hb2.size _; obtain ⟨w3, hw3⟩ : ∃ w3, w3 = (w2.alloc (.cells (#[.int .i64 0, .int .i64 0, .int .i64 0, .int .i64 0, .int .i64 0, .int .i64 0, .int .i64 0, .int .i64 0, .int .i64 0, .int .i64 0, .int .i64 0, .int .i64 0, .int .i64 0, .int .i64 0, .int .i64 0, .int .i64 0]) 58)).setRow w2.heap.size (arr (dg L)) := ⟨_, rfl⟩; rw [← hw3]; replace hB3 : Blk w3 w2.heap.size 58 (arr (dg L)) := hw3 ▸ hB3; replace hbel3 : Below w.heap.size w w3 := hw3 ▸ hbel3; replace hbl3 : Below w1.heap.size w1 w3 := hw3 ▸ hbl3; clear hw3)
        | (go_at_call 42; refine (diagramOf_any _ _ B L _ (h.below (hb1.mono hB)) (Nat.le_trans hB hb1.size) hl).mono ?_; rintro e w2 ⟨rfl, hb2⟩; rw [HV.out]; have hbel2 := hb1.trans (hb2.mono hb1.size))
        | (go_at_call 33; refine (kindsByName_any _).mono ?_; rintro e w1 ⟨b, n, f, rfl, km, kt, hb1⟩; have kt0 := kt s.data.toList; rw [hk] at kt0; obtain ⟨v, hfv, hik⟩ := kt0; obtain ⟨f1, p1, c1, rfl, he1, hK1⟩ := hik.isK; have hlk := km.look_ok s hs hfv))
      go_ret
      exact ⟨rfl, hbel3⟩
    | true =>
      have HV := Lib.hid hv
      have hl16 := (valid_bd hv).2.2.2
      have hiL : (Try.prog.info? 58).map (·.size) = some (arr (pad L)).size := by rw [arr_size, pad_len hl16]; exact T_info35
      rw [dg_yes hv] at hsD hiD
      have HDG := Lib.hid (dg_yes hv)
      clear hv
      go_enter Try.func17, Try.ntmps17
      go_wp2_with (first
        | (refine wpList_store_row rfl 58 (.tmp 7) (.tmp 18) rfl w2.heap.size rfl (arr (pad L)) rfl 58 (arr (List.replicate 16 0)) (Blk.new w2 _ _) hiD hsD (arr_one _) ?_; have hB3 := (Blk.new w2 58 (arr (List.replicate 16 0))).row (vs := arr (pad L)); have hbel3 : Below w.heap.size w ((w2.alloc (.cells (arr (List.replicate 16 0)) 58)).setRow w2.heap.size (arr (pad L))) := below_setRow' (hbel2.alloc hbel2.size _) hbel2.size _; have hbl3 : Below w1.heap.size w1 ((w2.alloc (.cells (arr (List.replicate 16 0)) 58)).setRow w2.heap.size (arr (pad L))) := below_setRow' (hb2.alloc hb2.size _) hb2.size _; obtain ⟨w3, hw3⟩ : ∃ w3, w3 = (w2.alloc (.cells (#[.int .i64 0, .int .i64 0, .int .i64 0, .int .i64 0, .int .i64 0, .int .i64 0, .int .i64 0, .int .i64 0, .int .i64 0, .int .i64 0, .int .i64 0, .int .i64 0, .int .i64 0, .int .i64 0, .int .i64 0, .int .i64 0]) 58)).setRow w2.heap.size (arr (pad L)) := ⟨_, rfl⟩; rw [← hw3]; replace hB3 : Blk w3 w2.heap.size 58 (arr (pad L)) := hw3 ▸ hB3; replace hbel3 : Below w.heap.size w w3 := hw3 ▸ hbel3; replace hbl3 : Below w1.heap.size w1 w3 := hw3 ▸ hbl3; clear hw3)
        | (go_at_call 42; refine (diagramOf_any _ _ B L _ (h.below (hb1.mono hB)) (Nat.le_trans hB hb1.size) hl).mono ?_; rintro e w2 ⟨rfl, hb2⟩; rw [HV.out, HDG.out]; have hbel2 := hb1.trans (hb2.mono hb1.size))
        | (refine wpList_load_row_g rfl 58 (.tmp 7) rfl w2.heap.size rfl 58 (arr (pad L)) (0, 0) _ hB3 Try.underlying58 rfl hiL ?_)
        | (refine (hK1 _ hbl3 L HV.out).mono ?_; rintro e w4 ⟨rfl, hb4⟩)
        | (go_at_call 33; refine (kindsByName_any _).mono ?_; rintro e w1 ⟨b, n, f, rfl, km, kt, hb1⟩; have kt0 := kt s.data.toList; rw [hk] at kt0; obtain ⟨v, hfv, hik⟩ := kt0; obtain ⟨f1, p1, c1, rfl, he1, hK1⟩ := hik.isK; have hlk := km.look_ok s hs hfv))
      go_ret
      exact ⟨by simp, hbel3.trans (hb4.mono hbel3.size)⟩
end Go.Proofs.Ytfcmfjhlmjnjiaa
