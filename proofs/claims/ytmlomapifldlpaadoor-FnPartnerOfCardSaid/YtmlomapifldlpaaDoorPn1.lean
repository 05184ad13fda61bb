/-
  Walks: the kind with as many parts (program and model).
-/
import Derived.Test.YtmlomapifldlpaaDoorChecked
import Derived.Test.YtmlomapifldlpaaDoorBase
import Derived.Test.YtmlomapifldlpaaDoorArr
import Derived.Deep.MidRow
import Derived.KernelRfl
import Derived.Lib.Hide
import Derived.WalkKit
import Derived.ProofKit
namespace Go.Proofs.YtmlomapifldlpaaDoor
open Go.RowKit
set_option maxRecDepth 8000
set_option linter.unusedVariables false
set_option linter.unusedSimpArgs false
def nmL : List (List UInt8) := [[111, 100, 100], [100, 105, 115, 116, 105, 110, 99, 116], [115, 101, 108, 102], [100, 105, 115, 116, 105, 110, 99, 116, 111, 100, 100], [110, 111, 116, 116, 104, 114, 101, 101], [116, 119, 105, 99, 101], [103, 97, 112], [102, 105, 118, 101], [103, 97, 112, 111, 110, 101], [102, 105, 118, 101, 116, 119, 111], [115, 99, 104, 117, 114], [115, 105, 120]]
def pnCells : List Value := [.string ⟨#[111, 100, 100]⟩, .string ⟨#[100, 105, 115, 116, 105, 110, 99, 116]⟩, .string ⟨#[115, 101, 108, 102]⟩, .string ⟨#[100, 105, 115, 116, 105, 110, 99, 116, 111, 100, 100]⟩, .string ⟨#[110, 111, 116, 116, 104, 114, 101, 101]⟩, .string ⟨#[116, 119, 105, 99, 101]⟩, .string ⟨#[103, 97, 112]⟩, .string ⟨#[102, 105, 118, 101]⟩, .string ⟨#[103, 97, 112, 111, 110, 101]⟩, .string ⟨#[102, 105, 118, 101, 116, 119, 111]⟩, .string ⟨#[115, 99, 104, 117, 114]⟩, .string ⟨#[115, 105, 120]⟩]
/-- the partner's name -/
def pnF (l : List UInt8) : List UInt8 := match nmL.findIdx? (fun x => x == l) with
  | some k => nmL.getD (k + 1 - 2 * (k % 2)) []
  | none => []
def pnS (s : ByteArray) : ByteArray := ⟨(pnF s.data.toList).toArray⟩
theorem pnF_none {l : List UInt8} (h : ∀ j, j < 12 → nmL.getD j [] ≠ l) : pnF l = [] := by
  have h0 : nmL.findIdx? (fun x => x == l) = none := by
    rw [List.findIdx?_eq_none_iff]
    intro x hx
    obtain ⟨j, hj, rfl⟩ := List.getElem_of_mem hx
    have h1 := h j hj
    rw [List.getD_eq_getElem?_getD, List.getElem?_eq_getElem hj] at h1
    simpa using h1
  unfold pnF
  rw [h0]
theorem toList_of {s : ByteArray} {l : List UInt8} (h : s.data.toList = l) : s.toList = l := by rw [ByteArray.toList_eq]; exact h
theorem beq_yes {s : ByteArray} {l : List UInt8} (h : s.data.toList = l) : (s.toList == l) = true := by rw [toList_of h]; simp
theorem beq_no {s : ByteArray} {l : List UInt8} (h : s.data.toList ≠ l) : (s.toList == l) = false := by rw [ByteArray.toList_eq]; exact beq_eq_false_iff_ne.2 h
theorem beq_yes' {s : ByteArray} {l : List UInt8} (h : s.data.toList = l) : (l == s.toList) = true := by rw [toList_of h]; simp
theorem beq_no' {s : ByteArray} {l : List UInt8} (h : s.data.toList ≠ l) : (l == s.toList) = false := by rw [ByteArray.toList_eq]; exact beq_eq_false_iff_ne.2 (fun e => h e.symm)
set_option maxRecDepth 100000 in
set_option maxHeartbeats 4000000 in
theorem sPartnerOf_any (s : ByteArray) (hs : s.size ≤ 1048576) (w : World) : Calls Tryd.prog 6 #[.string s] w fun e w' => e = .returned (.string (pnS s)) ∧ Below w.heap.size w w' := by
  have hb := Blk.new w 9 pnCells.toArray
  have hA : Below w.heap.size w (w.alloc (.cells pnCells.toArray 9)) := (Below.refl _ _).alloc (Nat.le_refl _) _
  obtain ⟨w1, hw1⟩ : ∃ w1, w.alloc (.cells pnCells.toArray 9) = w1 := ⟨_, rfl⟩
  have hw1' : w.alloc (.cells #[.string ⟨#[111, 100, 100]⟩, .string ⟨#[100, 105, 115, 116, 105, 110, 99, 116]⟩, .string ⟨#[115, 101, 108, 102]⟩, .string ⟨#[100, 105, 115, 116, 105, 110, 99, 116, 111, 100, 100]⟩, .string ⟨#[110, 111, 116, 116, 104, 114, 101, 101]⟩, .string ⟨#[116, 119, 105, 99, 101]⟩, .string ⟨#[103, 97, 112]⟩, .string ⟨#[102, 105, 118, 101]⟩, .string ⟨#[103, 97, 112, 111, 110, 101]⟩, .string ⟨#[102, 105, 118, 101, 116, 119, 111]⟩, .string ⟨#[115, 99, 104, 117, 114]⟩, .string ⟨#[115, 105, 120]⟩] 9) = w1 := hw1
  rw [hw1] at hb hA
  have c0 : w1.cell? ⟨w.heap.size, 0, none⟩ = some (.string ⟨#[111, 100, 100]⟩) := by rw [hb.cell 0]; rfl
  have c1 : w1.cell? ⟨w.heap.size, 1, none⟩ = some (.string ⟨#[100, 105, 115, 116, 105, 110, 99, 116]⟩) := by rw [hb.cell 1]; rfl
  have c2 : w1.cell? ⟨w.heap.size, 2, none⟩ = some (.string ⟨#[115, 101, 108, 102]⟩) := by rw [hb.cell 2]; rfl
  have c3 : w1.cell? ⟨w.heap.size, 3, none⟩ = some (.string ⟨#[100, 105, 115, 116, 105, 110, 99, 116, 111, 100, 100]⟩) := by rw [hb.cell 3]; rfl
  have c4 : w1.cell? ⟨w.heap.size, 4, none⟩ = some (.string ⟨#[110, 111, 116, 116, 104, 114, 101, 101]⟩) := by rw [hb.cell 4]; rfl
  have c5 : w1.cell? ⟨w.heap.size, 5, none⟩ = some (.string ⟨#[116, 119, 105, 99, 101]⟩) := by rw [hb.cell 5]; rfl
  have c6 : w1.cell? ⟨w.heap.size, 6, none⟩ = some (.string ⟨#[103, 97, 112]⟩) := by rw [hb.cell 6]; rfl
  have c7 : w1.cell? ⟨w.heap.size, 7, none⟩ = some (.string ⟨#[102, 105, 118, 101]⟩) := by rw [hb.cell 7]; rfl
  have c8 : w1.cell? ⟨w.heap.size, 8, none⟩ = some (.string ⟨#[103, 97, 112, 111, 110, 101]⟩) := by rw [hb.cell 8]; rfl
  have c9 : w1.cell? ⟨w.heap.size, 9, none⟩ = some (.string ⟨#[102, 105, 118, 101, 116, 119, 111]⟩) := by rw [hb.cell 9]; rfl
  have c10 : w1.cell? ⟨w.heap.size, 10, none⟩ = some (.string ⟨#[115, 99, 104, 117, 114]⟩) := by rw [hb.cell 10]; rfl
  have c11 : w1.cell? ⟨w.heap.size, 11, none⟩ = some (.string ⟨#[115, 105, 120]⟩) := by rw [hb.cell 11]; rfl
  clear hb hw1
  go_enter Tryd.func6, Tryd.ntmps6
  go_wp2_with fail
  try rw [hw1']
  go_loopw [4] (fun ii wr => ∃ i : Nat, ii = .int .i64 (i : Int) ∧ i ≤ 12 ∧ wr = w1 ∧ Hid (∀ j, j < i → nmL.getD j [] ≠ s.data.toList)) (fun ii _ => 20 - (intOf ii).toNat)
  case atStart => exact ⟨0, rfl, Nat.zero_le _, rfl, Lib.hid (fun j hj => by omega)⟩
  case round =>
    obtain ⟨i, rfl, hi, rfl, HN⟩ := hrel
    rcases (by omega : i = 0 ∨ i = 1 ∨ i = 2 ∨ i = 3 ∨ i = 4 ∨ i = 5 ∨ i = 6 ∨ i = 7 ∨ i = 8 ∨ i = 9 ∨ i = 10 ∨ i = 11 ∨ i = 12) with rfl | rfl | rfl | rfl | rfl | rfl | rfl | rfl | rfl | rfl | rfl | rfl | rfl
    · by_cases e1 : s.data.toList = [111, 100, 100]
      · have q1 := beq_yes' e1
        have HP : Hid (pnS s = ⟨#[100, 105, 115, 116, 105, 110, 99, 116]⟩) := Lib.hid (by unfold pnS; rw [e1]; rfl)
        clear e1
        go_wp2_with fail
        go_ret
        exact ⟨by rw [HP.out]; rfl, hA⟩
      · have q1 := beq_no' e1
        have HE := Lib.hid e1
        clear e1
        go_wp2_with fail
        go_roundw
        case rel => exact ⟨1, rfl, by omega, by first | rfl | trivial, Lib.hid (fun j hj => by
          rcases Nat.lt_or_ge j 0 with h | h
          · exact HN.out j h
          · obtain rfl : j = 0 := by omega
            exact fun e => HE.out e.symm)⟩
        case measure => decide
    · by_cases e1 : s.data.toList = [100, 105, 115, 116, 105, 110, 99, 116]
      · have q1 := beq_yes' e1
        have HP : Hid (pnS s = ⟨#[111, 100, 100]⟩) := Lib.hid (by unfold pnS; rw [e1]; rfl)
        clear e1
        go_wp2_with fail
        go_ret
        exact ⟨by rw [HP.out]; rfl, hA⟩
      · have q1 := beq_no' e1
        have HE := Lib.hid e1
        clear e1
        go_wp2_with fail
        go_roundw
        case rel => exact ⟨2, rfl, by omega, by first | rfl | trivial, Lib.hid (fun j hj => by
          rcases Nat.lt_or_ge j 1 with h | h
          · exact HN.out j h
          · obtain rfl : j = 1 := by omega
            exact fun e => HE.out e.symm)⟩
        case measure => decide
    · by_cases e1 : s.data.toList = [115, 101, 108, 102]
      · have q1 := beq_yes' e1
        have HP : Hid (pnS s = ⟨#[100, 105, 115, 116, 105, 110, 99, 116, 111, 100, 100]⟩) := Lib.hid (by unfold pnS; rw [e1]; rfl)
        clear e1
        go_wp2_with fail
        go_ret
        exact ⟨by rw [HP.out]; rfl, hA⟩
      · have q1 := beq_no' e1
        have HE := Lib.hid e1
        clear e1
        go_wp2_with fail
        go_roundw
        case rel => exact ⟨3, rfl, by omega, by first | rfl | trivial, Lib.hid (fun j hj => by
          rcases Nat.lt_or_ge j 2 with h | h
          · exact HN.out j h
          · obtain rfl : j = 2 := by omega
            exact fun e => HE.out e.symm)⟩
        case measure => decide
    · by_cases e1 : s.data.toList = [100, 105, 115, 116, 105, 110, 99, 116, 111, 100, 100]
      · have q1 := beq_yes' e1
        have HP : Hid (pnS s = ⟨#[115, 101, 108, 102]⟩) := Lib.hid (by unfold pnS; rw [e1]; rfl)
        clear e1
        go_wp2_with fail
        go_ret
        exact ⟨by rw [HP.out]; rfl, hA⟩
      · have q1 := beq_no' e1
        have HE := Lib.hid e1
        clear e1
        go_wp2_with fail
        go_roundw
        case rel => exact ⟨4, rfl, by omega, by first | rfl | trivial, Lib.hid (fun j hj => by
          rcases Nat.lt_or_ge j 3 with h | h
          · exact HN.out j h
          · obtain rfl : j = 3 := by omega
            exact fun e => HE.out e.symm)⟩
        case measure => decide
    · by_cases e1 : s.data.toList = [110, 111, 116, 116, 104, 114, 101, 101]
      · have q1 := beq_yes' e1
        have HP : Hid (pnS s = ⟨#[116, 119, 105, 99, 101]⟩) := Lib.hid (by unfold pnS; rw [e1]; rfl)
        clear e1
        go_wp2_with fail
        go_ret
        exact ⟨by rw [HP.out]; rfl, hA⟩
      · have q1 := beq_no' e1
        have HE := Lib.hid e1
        clear e1
        go_wp2_with fail
        go_roundw
        case rel => exact ⟨5, rfl, by omega, by first | rfl | trivial, Lib.hid (fun j hj => by
          rcases Nat.lt_or_ge j 4 with h | h
          · exact HN.out j h
          · obtain rfl : j = 4 := by omega
            exact fun e => HE.out e.symm)⟩
        case measure => decide
    · by_cases e1 : s.data.toList = [116, 119, 105, 99, 101]
      · have q1 := beq_yes' e1
        have HP : Hid (pnS s = ⟨#[110, 111, 116, 116, 104, 114, 101, 101]⟩) := Lib.hid (by unfold pnS; rw [e1]; rfl)
        clear e1
        go_wp2_with fail
        go_ret
        exact ⟨by rw [HP.out]; rfl, hA⟩
      · have q1 := beq_no' e1
        have HE := Lib.hid e1
        clear e1
        go_wp2_with fail
        go_roundw
        case rel => exact ⟨6, rfl, by omega, by first | rfl | trivial, Lib.hid (fun j hj => by
          rcases Nat.lt_or_ge j 5 with h | h
          · exact HN.out j h
          · obtain rfl : j = 5 := by omega
            exact fun e => HE.out e.symm)⟩
        case measure => decide
    · by_cases e1 : s.data.toList = [103, 97, 112]
      · have q1 := beq_yes' e1
        have HP : Hid (pnS s = ⟨#[102, 105, 118, 101]⟩) := Lib.hid (by unfold pnS; rw [e1]; rfl)
        clear e1
        go_wp2_with fail
        go_ret
        exact ⟨by rw [HP.out]; rfl, hA⟩
      · have q1 := beq_no' e1
        have HE := Lib.hid e1
        clear e1
        go_wp2_with fail
        go_roundw
        case rel => exact ⟨7, rfl, by omega, by first | rfl | trivial, Lib.hid (fun j hj => by
          rcases Nat.lt_or_ge j 6 with h | h
          · exact HN.out j h
          · obtain rfl : j = 6 := by omega
            exact fun e => HE.out e.symm)⟩
        case measure => decide
    · by_cases e1 : s.data.toList = [102, 105, 118, 101]
      · have q1 := beq_yes' e1
        have HP : Hid (pnS s = ⟨#[103, 97, 112]⟩) := Lib.hid (by unfold pnS; rw [e1]; rfl)
        clear e1
        go_wp2_with fail
        go_ret
        exact ⟨by rw [HP.out]; rfl, hA⟩
      · have q1 := beq_no' e1
        have HE := Lib.hid e1
        clear e1
        go_wp2_with fail
        go_roundw
        case rel => exact ⟨8, rfl, by omega, by first | rfl | trivial, Lib.hid (fun j hj => by
          rcases Nat.lt_or_ge j 7 with h | h
          · exact HN.out j h
          · obtain rfl : j = 7 := by omega
            exact fun e => HE.out e.symm)⟩
        case measure => decide
    · by_cases e1 : s.data.toList = [103, 97, 112, 111, 110, 101]
      · have q1 := beq_yes' e1
        have HP : Hid (pnS s = ⟨#[102, 105, 118, 101, 116, 119, 111]⟩) := Lib.hid (by unfold pnS; rw [e1]; rfl)
        clear e1
        go_wp2_with fail
        go_ret
        exact ⟨by rw [HP.out]; rfl, hA⟩
      · have q1 := beq_no' e1
        have HE := Lib.hid e1
        clear e1
        go_wp2_with fail
        go_roundw
        case rel => exact ⟨9, rfl, by omega, by first | rfl | trivial, Lib.hid (fun j hj => by
          rcases Nat.lt_or_ge j 8 with h | h
          · exact HN.out j h
          · obtain rfl : j = 8 := by omega
            exact fun e => HE.out e.symm)⟩
        case measure => decide
    · by_cases e1 : s.data.toList = [102, 105, 118, 101, 116, 119, 111]
      · have q1 := beq_yes' e1
        have HP : Hid (pnS s = ⟨#[103, 97, 112, 111, 110, 101]⟩) := Lib.hid (by unfold pnS; rw [e1]; rfl)
        clear e1
        go_wp2_with fail
        go_ret
        exact ⟨by rw [HP.out]; rfl, hA⟩
      · have q1 := beq_no' e1
        have HE := Lib.hid e1
        clear e1
        go_wp2_with fail
        go_roundw
        case rel => exact ⟨10, rfl, by omega, by first | rfl | trivial, Lib.hid (fun j hj => by
          rcases Nat.lt_or_ge j 9 with h | h
          · exact HN.out j h
          · obtain rfl : j = 9 := by omega
            exact fun e => HE.out e.symm)⟩
        case measure => decide
    · by_cases e1 : s.data.toList = [115, 99, 104, 117, 114]
      · have q1 := beq_yes' e1
        have HP : Hid (pnS s = ⟨#[115, 105, 120]⟩) := Lib.hid (by unfold pnS; rw [e1]; rfl)
        clear e1
        go_wp2_with fail
        go_ret
        exact ⟨by rw [HP.out]; rfl, hA⟩
      · have q1 := beq_no' e1
        have HE := Lib.hid e1
        clear e1
        go_wp2_with fail
        go_roundw
        case rel => exact ⟨11, rfl, by omega, by first | rfl | trivial, Lib.hid (fun j hj => by
          rcases Nat.lt_or_ge j 10 with h | h
          · exact HN.out j h
          · obtain rfl : j = 10 := by omega
            exact fun e => HE.out e.symm)⟩
        case measure => decide
    · by_cases e1 : s.data.toList = [115, 105, 120]
      · have q1 := beq_yes' e1
        have HP : Hid (pnS s = ⟨#[115, 99, 104, 117, 114]⟩) := Lib.hid (by unfold pnS; rw [e1]; rfl)
        clear e1
        go_wp2_with fail
        go_ret
        exact ⟨by rw [HP.out]; rfl, hA⟩
      · have q1 := beq_no' e1
        have HE := Lib.hid e1
        clear e1
        go_wp2_with fail
        go_roundw
        case rel => exact ⟨12, rfl, by omega, by first | rfl | trivial, Lib.hid (fun j hj => by
          rcases Nat.lt_or_ge j 11 with h | h
          · exact HN.out j h
          · obtain rfl : j = 11 := by omega
            exact fun e => HE.out e.symm)⟩
        case measure => decide
    · have HP : Hid (pnS s = ⟨#[]⟩) := Lib.hid (by unfold pnS; rw [pnF_none HN.out])
      go_wp2_with fail
      go_ret
      exact ⟨by rw [HP.out]; rfl, hA⟩
theorem pn_ix0 (w : World) : (Instr.index 33 (.agg pnCells.toArray) (.int .i64 0)).run Tryd.prog w = .ok (.agg #[.string ⟨#[111, 100, 100]⟩, .string ⟨#[100, 105, 115, 116, 105, 110, 99, 116]⟩]) w := by kernel_rfl
theorem pn_ix1 (w : World) : (Instr.index 33 (.agg pnCells.toArray) (.int .i64 1)).run Tryd.prog w = .ok (.agg #[.string ⟨#[115, 101, 108, 102]⟩, .string ⟨#[100, 105, 115, 116, 105, 110, 99, 116, 111, 100, 100]⟩]) w := by kernel_rfl
theorem pn_ix2 (w : World) : (Instr.index 33 (.agg pnCells.toArray) (.int .i64 2)).run Tryd.prog w = .ok (.agg #[.string ⟨#[110, 111, 116, 116, 104, 114, 101, 101]⟩, .string ⟨#[116, 119, 105, 99, 101]⟩]) w := by kernel_rfl
theorem pn_ix3 (w : World) : (Instr.index 33 (.agg pnCells.toArray) (.int .i64 3)).run Tryd.prog w = .ok (.agg #[.string ⟨#[103, 97, 112]⟩, .string ⟨#[102, 105, 118, 101]⟩]) w := by kernel_rfl
theorem pn_ix4 (w : World) : (Instr.index 33 (.agg pnCells.toArray) (.int .i64 4)).run Tryd.prog w = .ok (.agg #[.string ⟨#[103, 97, 112, 111, 110, 101]⟩, .string ⟨#[102, 105, 118, 101, 116, 119, 111]⟩]) w := by kernel_rfl
theorem pn_ix5 (w : World) : (Instr.index 33 (.agg pnCells.toArray) (.int .i64 5)).run Tryd.prog w = .ok (.agg #[.string ⟨#[115, 99, 104, 117, 114]⟩, .string ⟨#[115, 105, 120]⟩]) w := by kernel_rfl
set_option maxRecDepth 100000 in
set_option maxHeartbeats 4000000 in
theorem iPartnerOf_any (s : ByteArray) (hs : s.size ≤ 1048576) (w : World) (hG : w.rangeAt 0 0 pnCells) : Calls Tryd.prog 7 #[.string s] w fun e w' => e = .returned (.string (pnS s)) ∧ Below w.heap.size w w' := by
  go_enter Tryd.func7, Tryd.ntmps7
  go_wp2_with (refine wpList_load_mid rfl 33 (.global 0) rfl 0 0 rfl pnCells _ hG Tryd.underlying33 rfl (by kernel_rfl) ?_)
  go_loopw [6] (fun ii wr => ∃ i : Nat, ii = .int .i64 (i : Int) ∧ i ≤ 6 ∧ Below w.heap.size w wr ∧ Hid (∀ j, j < 2 * i → nmL.getD j [] ≠ s.data.toList)) (fun ii _ => 20 - (intOf ii).toNat)
  case atStart => exact ⟨0, rfl, Nat.zero_le _, Below.refl _ _, Lib.hid (fun j hj => by omega)⟩
  case round =>
    obtain ⟨i, rfl, hi, hbel, HN⟩ := hrel
    have hzr := hbel.size
    rcases (by omega : i = 0 ∨ i = 1 ∨ i = 2 ∨ i = 3 ∨ i = 4 ∨ i = 5 ∨ i = 6) with rfl | rfl | rfl | rfl | rfl | rfl | rfl
    · have x1 := pn_ix0
      by_cases e1 : s.data.toList = [111, 100, 100]
      · have q1 := beq_yes e1
        have HP : Hid (pnS s = ⟨#[100, 105, 115, 116, 105, 110, 99, 116]⟩) := Lib.hid (by unfold pnS; rw [e1]; rfl)
        clear e1
        go_wp2_with fail
        go_ret
        exact ⟨by rw [HP.out]; rfl, hbel.alloc hzr _⟩
      · have q1 := beq_no e1
        have HE := Lib.hid e1
        clear e1
        by_cases e2 : s.data.toList = [100, 105, 115, 116, 105, 110, 99, 116]
        · have q2 := beq_yes e2
          have HP : Hid (pnS s = ⟨#[111, 100, 100]⟩) := Lib.hid (by unfold pnS; rw [e2]; rfl)
          clear e2
          go_wp2_with fail
          go_ret
          exact ⟨by rw [HP.out]; rfl, hbel.alloc hzr _⟩
        · have q2 := beq_no e2
          have HF := Lib.hid e2
          clear e2
          go_wp2_with fail
          go_roundw
          case rel => exact ⟨1, rfl, by omega, hbel.alloc hzr _, Lib.hid (fun j hj => by
            rcases Nat.lt_or_ge j 0 with h | h
            · exact HN.out j h
            · rcases (by omega : j = 0 ∨ j = 1) with rfl | rfl
              · exact fun e => HE.out e.symm
              · exact fun e => HF.out e.symm)⟩
          case measure => decide
    · have x1 := pn_ix1
      by_cases e1 : s.data.toList = [115, 101, 108, 102]
      · have q1 := beq_yes e1
        have HP : Hid (pnS s = ⟨#[100, 105, 115, 116, 105, 110, 99, 116, 111, 100, 100]⟩) := Lib.hid (by unfold pnS; rw [e1]; rfl)
        clear e1
        go_wp2_with fail
        go_ret
        exact ⟨by rw [HP.out]; rfl, hbel.alloc hzr _⟩
      · have q1 := beq_no e1
        have HE := Lib.hid e1
        clear e1
        by_cases e2 : s.data.toList = [100, 105, 115, 116, 105, 110, 99, 116, 111, 100, 100]
        · have q2 := beq_yes e2
          have HP : Hid (pnS s = ⟨#[115, 101, 108, 102]⟩) := Lib.hid (by unfold pnS; rw [e2]; rfl)
          clear e2
          go_wp2_with fail
          go_ret
          exact ⟨by rw [HP.out]; rfl, hbel.alloc hzr _⟩
        · have q2 := beq_no e2
          have HF := Lib.hid e2
          clear e2
          go_wp2_with fail
          go_roundw
          case rel => exact ⟨2, rfl, by omega, hbel.alloc hzr _, Lib.hid (fun j hj => by
            rcases Nat.lt_or_ge j 2 with h | h
            · exact HN.out j h
            · rcases (by omega : j = 2 ∨ j = 3) with rfl | rfl
              · exact fun e => HE.out e.symm
              · exact fun e => HF.out e.symm)⟩
          case measure => decide
    · have x1 := pn_ix2
      by_cases e1 : s.data.toList = [110, 111, 116, 116, 104, 114, 101, 101]
      · have q1 := beq_yes e1
        have HP : Hid (pnS s = ⟨#[116, 119, 105, 99, 101]⟩) := Lib.hid (by unfold pnS; rw [e1]; rfl)
        clear e1
        go_wp2_with fail
        go_ret
        exact ⟨by rw [HP.out]; rfl, hbel.alloc hzr _⟩
      · have q1 := beq_no e1
        have HE := Lib.hid e1
        clear e1
        by_cases e2 : s.data.toList = [116, 119, 105, 99, 101]
        · have q2 := beq_yes e2
          have HP : Hid (pnS s = ⟨#[110, 111, 116, 116, 104, 114, 101, 101]⟩) := Lib.hid (by unfold pnS; rw [e2]; rfl)
          clear e2
          go_wp2_with fail
          go_ret
          exact ⟨by rw [HP.out]; rfl, hbel.alloc hzr _⟩
        · have q2 := beq_no e2
          have HF := Lib.hid e2
          clear e2
          go_wp2_with fail
          go_roundw
          case rel => exact ⟨3, rfl, by omega, hbel.alloc hzr _, Lib.hid (fun j hj => by
            rcases Nat.lt_or_ge j 4 with h | h
            · exact HN.out j h
            · rcases (by omega : j = 4 ∨ j = 5) with rfl | rfl
              · exact fun e => HE.out e.symm
              · exact fun e => HF.out e.symm)⟩
          case measure => decide
    · have x1 := pn_ix3
      by_cases e1 : s.data.toList = [103, 97, 112]
      · have q1 := beq_yes e1
        have HP : Hid (pnS s = ⟨#[102, 105, 118, 101]⟩) := Lib.hid (by unfold pnS; rw [e1]; rfl)
        clear e1
        go_wp2_with fail
        go_ret
        exact ⟨by rw [HP.out]; rfl, hbel.alloc hzr _⟩
      · have q1 := beq_no e1
        have HE := Lib.hid e1
        clear e1
        by_cases e2 : s.data.toList = [102, 105, 118, 101]
        · have q2 := beq_yes e2
          have HP : Hid (pnS s = ⟨#[103, 97, 112]⟩) := Lib.hid (by unfold pnS; rw [e2]; rfl)
          clear e2
          go_wp2_with fail
          go_ret
          exact ⟨by rw [HP.out]; rfl, hbel.alloc hzr _⟩
        · have q2 := beq_no e2
          have HF := Lib.hid e2
          clear e2
          go_wp2_with fail
          go_roundw
          case rel => exact ⟨4, rfl, by omega, hbel.alloc hzr _, Lib.hid (fun j hj => by
            rcases Nat.lt_or_ge j 6 with h | h
            · exact HN.out j h
            · rcases (by omega : j = 6 ∨ j = 7) with rfl | rfl
              · exact fun e => HE.out e.symm
              · exact fun e => HF.out e.symm)⟩
          case measure => decide
    · have x1 := pn_ix4
      by_cases e1 : s.data.toList = [103, 97, 112, 111, 110, 101]
      · have q1 := beq_yes e1
        have HP : Hid (pnS s = ⟨#[102, 105, 118, 101, 116, 119, 111]⟩) := Lib.hid (by unfold pnS; rw [e1]; rfl)
        clear e1
        go_wp2_with fail
        go_ret
        exact ⟨by rw [HP.out]; rfl, hbel.alloc hzr _⟩
      · have q1 := beq_no e1
        have HE := Lib.hid e1
        clear e1
        by_cases e2 : s.data.toList = [102, 105, 118, 101, 116, 119, 111]
        · have q2 := beq_yes e2
          have HP : Hid (pnS s = ⟨#[103, 97, 112, 111, 110, 101]⟩) := Lib.hid (by unfold pnS; rw [e2]; rfl)
          clear e2
          go_wp2_with fail
          go_ret
          exact ⟨by rw [HP.out]; rfl, hbel.alloc hzr _⟩
        · have q2 := beq_no e2
          have HF := Lib.hid e2
          clear e2
          go_wp2_with fail
          go_roundw
          case rel => exact ⟨5, rfl, by omega, hbel.alloc hzr _, Lib.hid (fun j hj => by
            rcases Nat.lt_or_ge j 8 with h | h
            · exact HN.out j h
            · rcases (by omega : j = 8 ∨ j = 9) with rfl | rfl
              · exact fun e => HE.out e.symm
              · exact fun e => HF.out e.symm)⟩
          case measure => decide
    · have x1 := pn_ix5
      by_cases e1 : s.data.toList = [115, 99, 104, 117, 114]
      · have q1 := beq_yes e1
        have HP : Hid (pnS s = ⟨#[115, 105, 120]⟩) := Lib.hid (by unfold pnS; rw [e1]; rfl)
        clear e1
        go_wp2_with fail
        go_ret
        exact ⟨by rw [HP.out]; rfl, hbel.alloc hzr _⟩
      · have q1 := beq_no e1
        have HE := Lib.hid e1
        clear e1
        by_cases e2 : s.data.toList = [115, 105, 120]
        · have q2 := beq_yes e2
          have HP : Hid (pnS s = ⟨#[115, 99, 104, 117, 114]⟩) := Lib.hid (by unfold pnS; rw [e2]; rfl)
          clear e2
          go_wp2_with fail
          go_ret
          exact ⟨by rw [HP.out]; rfl, hbel.alloc hzr _⟩
        · have q2 := beq_no e2
          have HF := Lib.hid e2
          clear e2
          go_wp2_with fail
          go_roundw
          case rel => exact ⟨6, rfl, by omega, hbel.alloc hzr _, Lib.hid (fun j hj => by
            rcases Nat.lt_or_ge j 10 with h | h
            · exact HN.out j h
            · rcases (by omega : j = 10 ∨ j = 11) with rfl | rfl
              · exact fun e => HE.out e.symm
              · exact fun e => HF.out e.symm)⟩
          case measure => decide
    · have HP : Hid (pnS s = ⟨#[]⟩) := Lib.hid (by unfold pnS; rw [pnF_none HN.out])
      go_wp2_with fail
      go_ret
      exact ⟨by rw [HP.out]; rfl, hbel⟩
end Go.Proofs.YtmlomapifldlpaaDoor
