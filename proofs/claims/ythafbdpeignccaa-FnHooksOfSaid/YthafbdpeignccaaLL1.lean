/-
  Walks: the laws' own helpers on lists of lists: compared (eqIntSS, equalLists).
-/
import Derived.Test.YthafbdpeignccaaL1
import Derived.Deep.RegionHeld3
import Derived.Test.YthafbdpeignccaaLL
namespace Go.Proofs.Ythafbdpeignccaa
open Go.RowKit NP
set_option maxRecDepth 8000
set_option linter.unusedVariables false
theorem keepD2 {wr wx w' : World} {p q : Addr} {x y : Value} (h1 : wx.cell? p = some x) (h2 : wx.cell? q = some y) (h3 : Dr wr wx) (hd : Dr wx w') : w'.cell? p = some x ∧ w'.cell? q = some y ∧ Dr wr w' := by
  obtain ⟨n, rfl⟩ := hd
  exact ⟨h1, h2, h3.drewN n⟩


theorem equalLists_same (a b : Option Addr) (ca cb Ba Bb : Nat) (LL : List (List Int)) (w : World) (h : RdLL w Ba a LL) (hm : RdLL w Bb b LL) (hl : LL.length ≤ 4611686018427387904) (hil : ∀ L ∈ LL, L.length ≤ 4611686018427387904) :
    Calls Try.prog 34 #[.slice a LL.length ca, .slice b LL.length cb] w fun e w' => e = .returned (.bool true) ∧ Dr w w' := by
  have hne : ((LL.length : Int) != (LL.length : Int)) = false := by simp
  go_enter Try.func34, Try.ntmps34
  go_wp2
  go_loopw [5] (fun i wr => ∃ k : Nat, k ≤ LL.length ∧ i = .int .i64 k ∧ Dr w wr) (fun i _ => LL.length - (intOf i).toNat)
  case atStart => exact ⟨0, Nat.zero_le _, rfl, Dr.refl _⟩
  case round =>
    obtain ⟨k, hk, rfl, hdr⟩ := hrel
    by_cases hlt : k < LL.length
    · obtain ⟨b1, o1, a1, c1, rfl, -, hc1, hr1, -⟩ := (h.dr hdr).at_ hlt
      obtain ⟨b2, o2, a2, c2, rfl, -, hc2, hr2, -⟩ := (hm.dr hdr).at_ hlt
      have hil' := hil LL[k] (List.getElem_mem hlt)
      clear hil h hm
      generalize LL[k] = M at hc1 hc2 hr1 hr2 hil'
      go_wp2_with fail
      go_region_held3 (fun w' => w'.cell? ⟨b1, o1 + k, none⟩ = some (.slice a1 M.length c1) ∧ w'.cell? ⟨b2, o2 + k, none⟩ = some (.slice a2 M.length c2) ∧ Dr wr w') (first | exact ⟨hc1, hc2, Dr.n wr 1⟩ | exact keepD2 (by assumption) (by assumption) (Dr.n wr 1) hd)
        (first | (go_at_call 20; refine (equalInts_same a1 a2 c1 c2 Ba Bb M _ (hr1.dr (Dr.n wr 1)) (hr2.dr (Dr.n wr 1)) hil').mono ?_; rintro e w' ⟨rfl, hd⟩))
      have hdw : Dr wr w' := by obtain ⟨n, rfl⟩ := hd; exact (Dr.n wr 1).drewN n
      go_wp2_with fail
      go_roundw
      case rel => exact ⟨k + 1, by omega, by go_num, by obtain ⟨n, rfl⟩ := hdw; exact hdr.drewN n⟩
      case measure => simp [intOf]; omega
    · obtain rfl : k = LL.length := by omega
      go_wp2
      go_ret
      exact ⟨rfl, hdr⟩

end Go.Proofs.Ythafbdpeignccaa
