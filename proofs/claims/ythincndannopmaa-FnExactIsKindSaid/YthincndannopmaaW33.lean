/-
  Walks of the program: stairs.
-/
import Derived.Test.YthincndannopmaaW32
import Derived.Test.YthincndannopmaaW24
namespace Go.Proofs.Ythincndannopmaa
open Go.RowKit NP
set_option linter.unusedVariables false
set_option linter.unusedSimpArgs false
theorem res_1cell {P : Program} {fn : Func} {p1 : Tmp} {ty : TypeId} (h : fn.results = #[.cell p1 ty]) (tmps : Array Value) (w : World) (g1 : Nat) (c1 : List Value) (d : TypeDesc)
    (hp1 : tmps.getD p1 undef = .pointer (some ⟨g1, 0, none⟩)) (h1 : w.rangeAt g1 0 c1)
    (hu : P.underlying ty = some d) (hd : d.isRow = true) (hi1 : (P.info? ty).map (·.size) = some c1.length) :
    (results fn tmps).run P w = .ok (.agg c1.toArray) w := by
  have hp1' : tmps[p1]?.getD undef = .pointer (some ⟨g1, 0, none⟩) := by simpa using hp1
  simp [results, h, hp1', asAddr, run_loadVar_mid w g1 0 ty c1 d h1 hu hd hi1]
def fillS (n i : Nat) : List Int := (List.range 16).map fun (j : Nat) => if j < i then (n : Int) - (j : Int) else 0
theorem fillS_len (n i : Nat) : (fillS n i).length = 16 := by simp [fillS]
theorem fillS_set (n : Nat) {i : Nat} (h : i < 16) : (fillS n i).set i ((n : Int) - (i : Int)) = fillS n (i + 1) := by
  apply List.ext_getElem
  · simp [fillS]
  · intro j h1 h2
    simp only [fillS, List.getElem_set, List.getElem_map, List.getElem_range]
    by_cases hj : i = j
    · subst hj; rw [if_pos rfl, if_pos (by omega)]
    · rw [if_neg hj]
      by_cases hji : j < i
      · rw [if_pos hji, if_pos (by omega)]
      · rw [if_neg hji, if_neg (by omega)]
theorem fillS_zero (n : Nat) : fillS n 0 = List.replicate 16 0 := by simp [fillS, List.map_const']
theorem fillS_end {n : Nat} (h : n ≤ 16) : fillS n n = pad (stairs n) := by
  have hl : (pad (stairs n)).length = 16 := pad_len (by rw [stairs_len]; exact h)
  apply List.ext_getElem
  · rw [fillS_len, hl]
  · intro j h1 h2
    have : (pad (stairs n))[j] = (stairs n).getD j 0 := by rw [← getD_lt h2, pad_getD (by rw [stairs_len]; exact h)]
    rw [this, stairs_getD]
    simp [fillS]
theorem stairs_pad_len {n : Nat} (h : n ≤ 16) : (pad (stairs n)).length = 16 := pad_len (by rw [stairs_len]; exact h)
theorem stairs_pad_getD {n : Nat} (h : n ≤ 16) (i : Nat) : (pad (stairs n)).getD i 0 = if i < n then (n : Int) - (i : Int) else 0 := by rw [pad_getD (by rw [stairs_len]; exact h), stairs_getD]


/-- whether there is a step for each part, and room for both -/
def kCarry (k : Int) (L : List Int) : Bool := decide ((L.length : Int) ≤ k) && (decide (k ≤ 16) && decide (k * (k + 1) / 2 + sumL L ≤ 16))
theorem mp_carry (k : Int) (P : List Int) : mpOk (kCarry k) P = stOk P k := by
  unfold mpOk kCarry stOk
  rw [Int.add_comm (k * (k + 1) / 2) (sumL P)]
  cases valid P <;> simp [Bool.and_assoc]





end Go.Proofs.Ythincndannopmaa
