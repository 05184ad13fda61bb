/-
  The library's contracts of strings.Builder and strings.Repeat, at the program's own numbers. Plain mathematics of parts: valid lists, their enumeration, prefixes. No Go text. Words for memory: what is readable (Rd), what is the call's own (Own), append onto it. Walks: sum, validParts, ValidParts, SumOf of the model. Arrays in blocks: a block known whole (Blk), a whole array stored and loaded, an element by a variable index. Walks: whether the sides of a box are in limits. Walks: the laws' own helpers on lists of numbers: copied (toIntS), compared (eqIntS, equalInts), marked, held. Walks: the methods of a diagram: sum, count, durfee, list, conjugate.
-/
import Derived.Shelf.Strings.Builder1
import Derived.Shelf.Strings.Builder2
import Derived.Shelf.Strings.Repeat
import Derived.Test.YtgkghebjaedjmaaProg
import Derived.KernelRfl
import Derived.WalkKit
import Derived.WalkSmall
import Derived.Handy
import Derived.Laws.CopyOwn
import Derived.Maps.AppendAt
import Derived.Deep.Draws
import Derived.Deep.QuietTactic
import Derived.BigQuiet
import Derived.Lib.Hide
import Derived.Laws.Rows
namespace Go.Proofs.Ytgkghebjaedjmaa
open Go.RowKit Go.Shelf
def shR : Go.Shelf.Ren := ⟨fun | 105 => 93 | 212 => 100 | 99 => 101 | 165 => 102 | 166 => 92 | 170 => 103 | 169 => 95 | 263 => 105 | 264 => 106 | 206 => 107 | 240 => 99 | 241 => 108 | 276 => 104 | 277 => 109 | 167 => 94 | n => n, fun | 9 => 9 | 3 => 3 | 4 => 4 | 20 => 20 | 0 => 0 | 46 => 125 | 109 => 126 | 5 => 5 | 72 => 113 | 76 => 116 | 51 => 133 | 146 => 134 | 53 => 136 | 148 => 137 | 70 => 111 | 37 => 27 | 75 => 115 | 127 => 130 | 164 => 131 | 80 => 120 | n => n, fun | n => n⟩
theorem shl166 : Go.Proofs.Lays.n166 Try.prog shR := {
  mixed := by kernel_rfl
  f166 := Try.func92.trans (congrArg some (by kernel_rfl))
  f240 := Try.func99.trans (congrArg some (by kernel_rfl))
  f276 := Try.func104.trans (congrArg some (by kernel_rfl))
  t0 := Try.underlying0
  a0 := Try.isAgg0
  z0 := Try.sizeOf0
  v0 := Try.zeroValue0
  t3 := Try.underlying3
  a3 := Try.isAgg3
  z3 := Try.sizeOf3
  v3 := Try.zeroValue3
  t4 := Try.underlying4
  a4 := Try.isAgg4
  z4 := Try.sizeOf4
  v4 := Try.zeroValue4
  t9 := Try.underlying9
  a9 := Try.isAgg9
  z9 := Try.sizeOf9
  v9 := Try.zeroValue9
  t20 := Try.underlying20
  a20 := Try.isAgg20
  z20 := Try.sizeOf20
  v20 := Try.zeroValue20
  t37 := Try.underlying27
  a37 := Try.isAgg27
  z37 := Try.sizeOf27
  v37 := Try.zeroValue27
  t70 := Try.underlying111
  a70 := Try.isAgg111
  z70 := Try.sizeOf111
  v70 := Try.zeroValue111
  t72 := Try.underlying113
  a72 := Try.isAgg113
  z72 := Try.sizeOf113
  v72 := Try.zeroValue113
  t75 := Try.underlying115
  a75 := Try.isAgg115
  z75 := Try.sizeOf115
  v75 := Try.zeroValue115
  t164 := Try.underlying131
  a164 := Try.isAgg131
  z164 := Try.sizeOf131
  v164 := Try.zeroValue131 }
theorem shl167 : Go.Proofs.Lays.n167 Try.prog shR := {
  mixed := by kernel_rfl
  f167 := Try.func94.trans (congrArg some (by kernel_rfl))
  f240 := Try.func99.trans (congrArg some (by kernel_rfl))
  f276 := Try.func104.trans (congrArg some (by kernel_rfl))
  t0 := Try.underlying0
  a0 := Try.isAgg0
  z0 := Try.sizeOf0
  v0 := Try.zeroValue0
  t4 := Try.underlying4
  a4 := Try.isAgg4
  z4 := Try.sizeOf4
  v4 := Try.zeroValue4
  t5 := Try.underlying5
  a5 := Try.isAgg5
  z5 := Try.sizeOf5
  v5 := Try.zeroValue5
  t9 := Try.underlying9
  a9 := Try.isAgg9
  z9 := Try.sizeOf9
  v9 := Try.zeroValue9
  t20 := Try.underlying20
  a20 := Try.isAgg20
  z20 := Try.sizeOf20
  v20 := Try.zeroValue20
  t37 := Try.underlying27
  a37 := Try.isAgg27
  z37 := Try.sizeOf27
  v37 := Try.zeroValue27
  t70 := Try.underlying111
  a70 := Try.isAgg111
  z70 := Try.sizeOf111
  v70 := Try.zeroValue111
  t72 := Try.underlying113
  a72 := Try.isAgg113
  z72 := Try.sizeOf113
  v72 := Try.zeroValue113
  t75 := Try.underlying115
  a75 := Try.isAgg115
  z75 := Try.sizeOf115
  v75 := Try.zeroValue115
  t164 := Try.underlying131
  a164 := Try.isAgg131
  z164 := Try.sizeOf131
  v164 := Try.zeroValue131 }
theorem shl169 : Go.Proofs.Lays.n169 Try.prog shR := {
  mixed := by kernel_rfl
  f169 := Try.func95.trans (congrArg some (by kernel_rfl))
  t0 := Try.underlying0
  a0 := Try.isAgg0
  z0 := Try.sizeOf0
  v0 := Try.zeroValue0
  t3 := Try.underlying3
  a3 := Try.isAgg3
  z3 := Try.sizeOf3
  v3 := Try.zeroValue3
  t9 := Try.underlying9
  a9 := Try.isAgg9
  z9 := Try.sizeOf9
  v9 := Try.zeroValue9
  t37 := Try.underlying27
  a37 := Try.isAgg27
  z37 := Try.sizeOf27
  v37 := Try.zeroValue27
  t70 := Try.underlying111
  a70 := Try.isAgg111
  z70 := Try.sizeOf111
  v70 := Try.zeroValue111
  t72 := Try.underlying113
  a72 := Try.isAgg113
  z72 := Try.sizeOf113
  v72 := Try.zeroValue113
  t127 := Try.underlying130
  a127 := Try.isAgg130
  z127 := Try.sizeOf130
  v127 := Try.zeroValue130 }
theorem shl105 : Go.Proofs.Lays.n105 Try.prog shR := {
  mixed := by kernel_rfl
  f99 := Try.func101.trans (congrArg some (by kernel_rfl))
  f105 := Try.func93.trans (congrArg some (by kernel_rfl))
  f165 := Try.func102.trans (congrArg some (by kernel_rfl))
  f166 := Try.func92.trans (congrArg some (by kernel_rfl))
  f169 := Try.func95.trans (congrArg some (by kernel_rfl))
  f170 := Try.func103.trans (congrArg some (by kernel_rfl))
  f206 := Try.func107.trans (congrArg some (by kernel_rfl))
  f212 := Try.func100.trans (congrArg some (by kernel_rfl))
  f240 := Try.func99.trans (congrArg some (by kernel_rfl))
  f241 := Try.func108.trans (congrArg some (by kernel_rfl))
  f263 := Try.func105.trans (congrArg some (by kernel_rfl))
  f264 := Try.func106.trans (congrArg some (by kernel_rfl))
  f276 := Try.func104.trans (congrArg some (by kernel_rfl))
  f277 := Try.func109.trans (congrArg some (by kernel_rfl))
  t0 := Try.underlying0
  a0 := Try.isAgg0
  z0 := Try.sizeOf0
  v0 := Try.zeroValue0
  t3 := Try.underlying3
  a3 := Try.isAgg3
  z3 := Try.sizeOf3
  v3 := Try.zeroValue3
  t4 := Try.underlying4
  a4 := Try.isAgg4
  z4 := Try.sizeOf4
  v4 := Try.zeroValue4
  t5 := Try.underlying5
  a5 := Try.isAgg5
  z5 := Try.sizeOf5
  v5 := Try.zeroValue5
  t9 := Try.underlying9
  a9 := Try.isAgg9
  z9 := Try.sizeOf9
  v9 := Try.zeroValue9
  t20 := Try.underlying20
  a20 := Try.isAgg20
  z20 := Try.sizeOf20
  v20 := Try.zeroValue20
  t37 := Try.underlying27
  a37 := Try.isAgg27
  z37 := Try.sizeOf27
  v37 := Try.zeroValue27
  t46 := Try.underlying125
  a46 := Try.isAgg125
  z46 := Try.sizeOf125
  v46 := Try.zeroValue125
  t51 := Try.underlying133
  a51 := Try.isAgg133
  z51 := Try.sizeOf133
  v51 := Try.zeroValue133
  t53 := Try.underlying136
  a53 := Try.isAgg136
  z53 := Try.sizeOf136
  v53 := Try.zeroValue136
  t70 := Try.underlying111
  a70 := Try.isAgg111
  z70 := Try.sizeOf111
  v70 := Try.zeroValue111
  t72 := Try.underlying113
  a72 := Try.isAgg113
  z72 := Try.sizeOf113
  v72 := Try.zeroValue113
  t75 := Try.underlying115
  a75 := Try.isAgg115
  z75 := Try.sizeOf115
  v75 := Try.zeroValue115
  t76 := Try.underlying116
  a76 := Try.isAgg116
  z76 := Try.sizeOf116
  v76 := Try.zeroValue116
  t109 := Try.underlying126
  a109 := Try.isAgg126
  z109 := Try.sizeOf126
  v109 := Try.zeroValue126
  t127 := Try.underlying130
  a127 := Try.isAgg130
  z127 := Try.sizeOf130
  v127 := Try.zeroValue130
  t146 := Try.underlying134
  a146 := Try.isAgg134
  z146 := Try.sizeOf134
  v146 := Try.zeroValue134
  t148 := Try.underlying137
  a148 := Try.isAgg137
  z148 := Try.sizeOf137
  v148 := Try.zeroValue137
  t164 := Try.underlying131
  a164 := Try.isAgg131
  z164 := Try.sizeOf131
  v164 := Try.zeroValue131 }
theorem shX : Builder.Extra Try.prog shR := {
  sizeBuilder := by kernel_rfl
  liesBuilder := by kernel_rfl
  t5 := Try.underlying5
  a5 := Try.isAgg5
  z5 := Try.sizeOf5
  v5 := Try.zeroValue5
  infoByte := by kernel_rfl
  cellsByte := by kernel_rfl
  sizeByte := by kernel_rfl
  neB5 := by decide }
theorem sbByte_any (B b : Nat) (bs : List Value) (c : Int) (w : World) (h : Lib.IsBuilder 113 5 B b bs w) (hlen : bs.length + 1 ≤ 140737488355328) (hBw : B ≤ w.heap.size) :
    Calls Try.prog 94 #[.pointer (some ⟨b, 0, none⟩), .int .u8 c] w fun e w' => e = .returned .nilIface ∧ (Lib.BuilderAt 113 5 B b (.pointer (some ⟨b, 0, none⟩)) (bs ++ [.int .u8 c]) w' ∧ Below B w w') := Any.Builder_WriteByte shl167 shX B b bs c w h hlen hBw
theorem sbStr_any (B b : Nat) (bs : List Value) (s : ByteArray) (w : World) (h : Lib.IsBuilder 113 5 B b bs w) (hlen : bs.length + s.size ≤ 140737488355328) (hBw : B ≤ w.heap.size) :
    Calls Try.prog 92 #[.pointer (some ⟨b, 0, none⟩), .string s] w fun e w' => e = .returned (.tuple #[.int .i64 s.size, .nilIface]) ∧ (Lib.BuilderAt 113 5 B b (.pointer (some ⟨b, 0, none⟩)) (bs ++ Lib.strCells s) w' ∧ Below B w w') := Any.Builder_WriteString shl166 shX B b bs s w h hlen hBw
theorem sbString_any (B b : Nat) (l : List UInt8) (w : World) (h : Lib.IsBuilder 113 5 B b (Lib.byteCells l) w) (hBw : B ≤ w.heap.size) :
    Calls Try.prog 95 #[.pointer (some ⟨b, 0, none⟩)] w fun e w' => e = .returned (.string ⟨l.toArray⟩) ∧ Below B w w' := Any.Builder_String_any shl169 shX B b l w h hBw
theorem sRepeat_any (s : ByteArray) (c : Nat) (w : World) (hc : c ≤ 9223372036854775807) (hlen : s.size * c ≤ 140737488355328) :
    Calls Try.prog 93 #[.string s, .int .i64 c] w fun e w' => e = .returned (.string ⟨(Lib.repeatL s.data.toList c).toArray⟩) ∧ Below w.heap.size w w' := Any.strings_Repeat shl105 shX s c w hc hlen
end Go.Proofs.Ytgkghebjaedjmaa
namespace Go.Proofs.Ytgkghebjaedjmaa
namespace NP
/-- parts below most with at most left together -/
def vb : Int → Int → List Int → Bool
  | _, _, [] => true
  | m, l, x :: r => decide (1 ≤ x) && decide (x ≤ l) && decide (x ≤ m) && vb x (l - x) r
def valid (L : List Int) : Bool := vb 16 16 L

/-- all parts: greatest at most m, together at most l; f: fuel -/
def enum : Nat → Nat → Nat → List (List Nat)
  | 0, _, _ => [[]]
  | f + 1, m, l => [] :: ((List.range (min m l)).flatMap fun k => (enum f (k + 1) (l - (k + 1))).map ((k + 1) :: ·))

theorem mem_enum : ∀ (f : Nat) (m l : Nat) (L : List Int), l ≤ f → vb m l L = true → ∃ N ∈ enum f m l, L = N.map Int.ofNat := by
  intro f
  induction f with
  | zero =>
    intro m l L hl h
    cases L with
    | nil => exact ⟨[], by simp [enum], rfl⟩
    | cons x r => simp [vb] at h; omega
  | succ f ih =>
    intro m l L hl h
    cases L with
    | nil => exact ⟨[], by simp [enum], rfl⟩
    | cons x r =>
      simp only [vb, Bool.and_eq_true, decide_eq_true_eq] at h
      obtain ⟨⟨⟨h1, h2⟩, h3⟩, h4⟩ := h
      obtain ⟨n, rfl⟩ := Int.eq_ofNat_of_zero_le (show 0 ≤ x by omega)
      have e : ((l : Int) - (n : Int)) = ((l - n : Nat) : Int) := by omega
      rw [e] at h4
      obtain ⟨N, hN, hr⟩ := ih n (l - n) r (by omega) h4
      refine ⟨n :: N, ?_, by simp [hr]⟩
      simp only [enum, List.mem_cons, List.mem_flatMap, List.mem_range, List.mem_map]
      right
      refine ⟨n - 1, by omega, N, ?_, ?_⟩
      · rw [show n - 1 + 1 = n by omega]; exact hN
      · rw [show n - 1 + 1 = n by omega]

def all16 : List (List Nat) := enum 16 16 16
theorem mem_all16 {L : List Int} (h : valid L = true) : ∃ N ∈ all16, L = N.map Int.ofNat := mem_enum 16 16 16 L (by omega) h

/-- what is true of each of the 915 -/
theorem of_all {p : List Nat → Bool} (hp : all16.all p = true) {L : List Int} (h : valid L = true) : ∃ N, p N = true ∧ L = N.map Int.ofNat := by
  obtain ⟨N, hN, e⟩ := mem_all16 h
  exact ⟨N, List.all_eq_true.1 hp N hN, e⟩
end NP
namespace NP
def sumL : List Int → Int | [] => 0 | x :: r => x + sumL r
theorem sumL_append (a b : List Int) : sumL (a ++ b) = sumL a + sumL b := by
  induction a with
  | nil => simp [sumL]
  | cons x r ih => simp [sumL, ih]; omega
theorem sumL_take_succ (L : List Int) (k : Nat) (h : k < L.length) : sumL (L.take (k + 1)) = sumL (L.take k) + L[k] := by
  rw [List.take_succ_eq_append_getElem h, sumL_append]; simp [sumL]
def lastOr (m : Int) (L : List Int) : Int := L.getLastD m
theorem vb_append (m l : Int) (a b : List Int) : vb m l (a ++ b) = (vb m l a && vb (a.getLastD m) (l - sumL a) b) := by
  induction a generalizing m l with
  | nil => simp [vb, sumL]
  | cons x r ih =>
    simp only [List.cons_append, vb, ih, sumL]
    have e : (x :: r).getLastD m = r.getLastD x := by cases r <;> simp [List.getLastD]
    rw [e, show l - x - sumL r = l - (x + sumL r) by omega]
    simp [Bool.and_assoc]
theorem vb_nonneg {m l : Int} {a : List Int} (hl : 0 ≤ l) (h : vb m l a = true) : 0 ≤ sumL a ∧ sumL a ≤ l ∧ (a.length : Int) ≤ sumL a := by
  induction a generalizing m l with
  | nil => simp [sumL]; omega
  | cons x r ih =>
    simp only [vb, Bool.and_eq_true, decide_eq_true_eq] at h
    have := ih (by omega) h.2
    simp only [sumL, List.length_cons]
    omega
theorem valid_bd {L : List Int} (h : valid L = true) : 0 ≤ sumL L ∧ sumL L ≤ 16 ∧ (L.length : Int) ≤ sumL L ∧ L.length ≤ 16 := by
  have := vb_nonneg (by omega) h
  omega
theorem valid_take {L : List Int} (h : valid L = true) (k : Nat) : valid (L.take k) = true := by
  have e := List.take_append_drop k L
  unfold valid at *
  rw [← e, vb_append] at h
  simp at h
  exact h.1
theorem valid_of_take {L : List Int} {k : Nat} (h : valid (L.take k) = false) : valid L = false := by
  cases hv : valid L with
  | false => rfl
  | true => rw [valid_take hv k] at h; cases h
/-- a step of the prefix -/
theorem valid_step {L : List Int} {k : Nat} (hk : k < L.length) (h : valid (L.take k) = true) :
    valid (L.take (k + 1)) = (decide (1 ≤ L[k]) && decide (L[k] ≤ 16 - sumL (L.take k)) && decide (L[k] ≤ (L.take k).getLastD 16)) := by
  rw [List.take_succ_eq_append_getElem hk]
  unfold valid at *
  rw [vb_append, h]
  simp [vb]
theorem last_take {L : List Int} {k : Nat} (hk : k < L.length) : (L.take (k + 1)).getLastD 16 = L[k] := by
  rw [List.take_succ_eq_append_getElem hk, List.getLastD_eq_getLast?, List.getLast?_append]; simp
theorem vb_iff (m l : Int) (L : List Int) : vb m l L = true ↔ (∀ k (h : k < L.length), 1 ≤ L[k] ∧ L[k] ≤ m ∧ (∀ h' : k + 1 < L.length, L[k+1] ≤ L[k])) ∧ (0 < L.length → sumL L ≤ l) := by
  induction L generalizing m l with
  | nil => simp [vb]
  | cons x r ih =>
    simp only [vb, Bool.and_eq_true, decide_eq_true_eq, ih, List.length_cons, sumL]
    constructor
    · rintro ⟨⟨⟨h1, h2⟩, h3⟩, h4, h5⟩
      refine ⟨fun k hk => ?_, fun _ => ?_⟩
      · match k, hk with
        | 0, hk => exact ⟨h1, h3, fun h' => (h4 0 (by omega)).2.1⟩
        | k + 1, hk =>
          have := h4 k (by omega)
          have hx : r[k] ≤ x := by
            clear h5
            exact this.2.1
          exact ⟨this.1, by simp; omega, fun h' => this.2.2 (by omega)⟩
      · rcases Nat.eq_zero_or_pos r.length with h0 | h0
        · have : r = [] := List.eq_nil_of_length_eq_zero h0
          subst this; simp [sumL]; omega
        · have := h5 h0; omega
    · rintro ⟨h4, h5⟩
      have h0 := h4 0 (by omega)
      simp at h0
      have hs : ∀ (r : List Int) (x : Int), (∀ k (h : k < (x :: r).length), 1 ≤ (x :: r)[k]) → 0 ≤ sumL r := by
        intro r
        induction r with
        | nil => intro x _; simp [sumL]
        | cons y s ih => 
          intro x h
          have h1 := h 1 (by simp)
          have := ih y (fun k hk => h (k + 1) (by simpa using hk))
          simp [sumL] at *; omega
      have hr := hs r x (fun k hk => (h4 k (by simpa using hk)).1)
      have h6 := h5 (by omega)
      refine ⟨⟨⟨h0.1, by omega⟩, by omega⟩, fun k hk => ?_, fun _ => by omega⟩
      have h7 := h4 (k + 1) (by omega)
      have mono : ∀ k (hk : k < (x :: r).length), (x :: r)[k] ≤ x := by
        intro k
        induction k with
        | zero => intro _; simp
        | succ k ihk =>
          intro hk
          have := (h4 k (by simp at hk ⊢; omega)).2.2 (by simpa using hk)
          have := ihk (by omega)
          omega
      exact ⟨h7.1, mono (k + 1) (by simpa using hk), fun h' => h7.2.2 (by omega)⟩
end NP
namespace NP
/-- the spec's own prefix condition -/
def preS (L : List Int) (k : Nat) : Prop := ∀ j (h : j < L.length), j < k → 1 ≤ L[j] ∧ L[j] ≤ 16 ∧ (0 < j → L[j] ≤ L[j - 1]'(by omega))
theorem valid_of_preS {L : List Int} (h : preS L L.length) (hs : sumL L ≤ 16) : valid L = true := by
  unfold valid
  rw [vb_iff]
  refine ⟨fun k hk => ?_, fun _ => hs⟩
  have h1 := h k hk hk
  refine ⟨h1.1, h1.2.1, fun h' => ?_⟩
  have h2 := (h (k + 1) h' h').2.2 (by omega)
  simpa using h2
theorem preS_of_valid {L : List Int} (h : valid L = true) : preS L L.length := by
  unfold valid at h
  rw [vb_iff] at h
  intro j hj _
  have h1 := h.1 j hj
  refine ⟨h1.1, h1.2.1, fun h0 => ?_⟩
  have h2 := (h.1 (j - 1) (by omega)).2.2 (by omega)
  have e : j - 1 + 1 = j := by omega
  simp only [e] at h2
  exact h2
theorem preS_succ {L : List Int} {k : Nat} (hk : k < L.length) (h : preS L k) (h1 : 1 ≤ L[k]) (h2 : L[k] ≤ 16) (h3 : 0 < k → L[k] ≤ L[k - 1]'(by omega)) : preS L (k + 1) := by
  intro j hj hjk
  rcases Nat.lt_or_ge j k with hlt | hge
  · exact h j hj hlt
  · obtain rfl : j = k := by omega
    exact ⟨h1, h2, h3⟩
theorem not_valid_at {L : List Int} {k : Nat} (hk : k < L.length) (h : ¬ (1 ≤ L[k] ∧ L[k] ≤ 16 ∧ (0 < k → L[k] ≤ L[k - 1]'(by omega)))) : valid L = false := by
  cases hv : valid L with
  | false => rfl
  | true => exact absurd (preS_of_valid hv k hk hk) h
theorem preS_sum {L : List Int} (h : preS L L.length) : ∀ k, k ≤ L.length → (k : Int) ≤ sumL (L.take k) ∧ sumL (L.take k) ≤ 16 * k := by
  intro k
  induction k with
  | zero => intro _; simp [sumL]
  | succ k ih =>
    intro hk
    have := ih (by omega)
    have h1 := h k (by omega) (by omega)
    rw [sumL_take_succ L k (by omega)]
    omega
end NP
namespace NP
theorem last_take' {L : List Int} {k : Nat} (hk : k < L.length) (h0 : 0 < k) : (L.take k).getLastD 16 = L[k - 1]'(by omega) := by
  have := last_take (L := L) (k := k - 1) (by omega)
  rw [show k - 1 + 1 = k by omega] at this
  exact this
theorem valid_next {L : List Int} {k : Nat} (hk : k < L.length) (h : valid (L.take k) = true) (h1 : 1 ≤ L[k]) (h2 : L[k] ≤ 16 - sumL (L.take k)) (h3 : 0 < k → L[k] ≤ L[k - 1]'(by omega)) : valid (L.take (k + 1)) = true := by
  rw [valid_step hk h]
  have hb := valid_bd h
  rcases Nat.eq_zero_or_pos k with h0 | h0
  · subst h0
    simp at h2 ⊢
    simp [sumL] at h2 ⊢
    omega
  · rw [last_take' hk h0]
    have := h3 h0
    simp; omega
theorem valid_stop {L : List Int} {k : Nat} (hk : k < L.length) (h : valid (L.take k) = true) (hn : ¬ (1 ≤ L[k] ∧ L[k] ≤ 16 - sumL (L.take k) ∧ (0 < k → L[k] ≤ L[k - 1]'(by omega)))) : valid L = false := by
  cases hv : valid L with
  | false => rfl
  | true =>
    have h1 := valid_take hv (k + 1)
    rw [valid_step hk h] at h1
    simp at h1
    exact absurd ⟨h1.1.1, h1.1.2, fun h0 => by rw [← last_take' hk h0]; simpa using h1.2⟩ hn
end NP
namespace NP
/-- the parts and 0 behind them -/
def pad (L : List Int) : List Int := L ++ List.replicate (16 - L.length) 0
theorem pad_len {L : List Int} (h : L.length ≤ 16) : (pad L).length = 16 := by simp [pad]; omega
theorem pad_set {L : List Int} {k : Nat} (hk : k < L.length) (h : k < 16) : (pad (L.take k)).set k L[k] = pad (L.take (k + 1)) := by
  unfold pad
  have e1 : (L.take k).length = k := by simp; omega
  have e2 : (L.take (k + 1)).length = k + 1 := by simp; omega
  rw [e1, e2, show 16 - k = (16 - (k + 1)) + 1 by omega, List.replicate_succ, List.set_append_right _ _ (by omega), e1, Nat.sub_self, List.set_cons_zero, List.take_succ_eq_append_getElem hk, List.append_assoc]
  simp
/-- the array that diagramOf returns -/
def dg (L : List Int) : List Int := if valid L then pad L else List.replicate 16 0
theorem dg_yes {L : List Int} (h : valid L = true) : dg L = pad L := by simp [dg, h]
theorem dg_no {L : List Int} (h : valid L = false) : dg L = List.replicate 16 0 := by simp [dg, h]

/-- how far a test holds from k on, f places at most -/
def ffrom (p : Nat → Bool) : Nat → Nat → Nat
  | 0, k => k
  | f + 1, k => if p k then ffrom p f (k + 1) else k
def ff (p : Nat → Bool) (n : Nat) : Nat := ffrom p n 0
theorem ffrom_eq (p : Nat → Bool) : ∀ (f k0 k : Nat), (∀ j, k0 ≤ j → j < k → p j = true) → k0 ≤ k → k ≤ k0 + f → (k = k0 + f ∨ p k = false) → ffrom p f k0 = k := by
  intro f
  induction f with
  | zero => intro k0 k _ h1 h2 _; simp only [ffrom]; omega
  | succ f ih =>
    intro k0 k h h1 h2 h3
    simp only [ffrom]
    by_cases hk : k = k0
    · subst hk
      rcases h3 with h3 | h3
      · omega
      · simp [h3]
    · rw [if_pos (h k0 (Nat.le_refl _) (by omega))]
      exact ih (k0 + 1) k (fun j hj hjk => h j (by omega) hjk) (by omega) (by omega) (h3.imp (by omega) id)
theorem ff_eq {p : Nat → Bool} {n k : Nat} (h : ∀ j, j < k → p j = true) (h2 : k ≤ n) (h3 : k = n ∨ p k = false) : ff p n = k :=
  ffrom_eq p n 0 k (fun j _ hj => h j hj) (Nat.zero_le _) (by omega) (by simpa using h3)

theorem pad_get {L : List Int} {k : Nat} (h : L.length ≤ 16) (hk : k < L.length) : (pad L)[k]'(by rw [pad_len h]; omega) = L[k] := by simp [pad, List.getElem_append_left hk]
theorem pad_get0 {L : List Int} {k : Nat} (h : L.length ≤ 16) (hk : L.length ≤ k) (h16 : k < 16) : (pad L)[k]'(by rw [pad_len h]; omega) = 0 := by simp [pad, List.getElem_append_right hk]
theorem pad_take {L : List Int} : (pad L).take L.length = L := by simp [pad]

/-- how many are at least k -/
def cnt (k : Int) : List Int → Int
  | [] => 0
  | x :: r => (if k ≤ x then 1 else 0) + cnt k r
theorem cnt_append (k : Int) (a b : List Int) : cnt k (a ++ b) = cnt k a + cnt k b := by
  induction a with
  | nil => simp [cnt]
  | cons x r ih => simp [cnt, ih]; omega
theorem cnt_take_succ (k : Int) (L : List Int) (i : Nat) (h : i < L.length) : cnt k (L.take (i + 1)) = cnt k (L.take i) + (if k ≤ L[i] then 1 else 0) := by
  rw [List.take_succ_eq_append_getElem h, cnt_append]; simp [cnt]
theorem cnt_bd (k : Int) (L : List Int) : 0 ≤ cnt k L ∧ cnt k L ≤ L.length := by
  induction L with
  | nil => simp [cnt]
  | cons x r ih => simp only [cnt, List.length_cons]; split <;> omega
theorem cnt_anti {k l : Int} (h : k ≤ l) (L : List Int) : cnt l L ≤ cnt k L := by
  induction L with
  | nil => simp [cnt]
  | cons x r ih => simp only [cnt]; (repeat' split) <;> omega
theorem cnt_zero {k : Int} (hk : 1 ≤ k) (n : Nat) : cnt k (List.replicate n 0) = 0 := by
  induction n with
  | zero => rfl
  | succ n ih => rw [List.replicate_succ, cnt, ih]; split <;> omega
theorem cnt_pad {k : Int} (hk : 1 ≤ k) (L : List Int) : cnt k (pad L) = cnt k L := by unfold pad; rw [cnt_append, cnt_zero hk]; omega
theorem cnt_none {k : Int} {L : List Int} (h : ∀ x ∈ L, x < k) : cnt k L = 0 := by
  induction L with
  | nil => rfl
  | cons x r ih =>
    rw [cnt, ih (fun y hy => h y (by simp [hy]))]
    have := h x (by simp)
    split <;> omega
def conj (L : List Int) : List Int := (List.range (L.headD 0).toNat).map fun (j : Nat) => cnt ((j : Int) + 1) L
theorem conj_len (L : List Int) : (conj L).length = (L.headD 0).toNat := by simp [conj]
theorem conj_get (L : List Int) (k : Nat) (h : k < (conj L).length) : (conj L)[k] = cnt ((k : Int) + 1) L := by simp [conj]
theorem head_ge {L : List Int} (h : valid L = true) : ∀ x ∈ L, x ≤ L.headD 0 := by
  have hp := preS_of_valid h
  have key : ∀ k (hk : k < L.length), L[k] ≤ L.headD 0 := by
    intro k
    induction k with
    | zero => intro hk; cases L <;> simp at hk ⊢
    | succ k ih =>
      intro hk
      have h1 := (hp (k + 1) hk hk).2.2 (by omega)
      have h2 := ih (by omega)
      simp at h1
      omega
  intro x hx
  obtain ⟨k, hk, rfl⟩ := List.getElem_of_mem hx
  exact key k hk
theorem headD_bd {L : List Int} (h : valid L = true) : 0 ≤ L.headD 0 ∧ L.headD 0 ≤ 16 := by
  have hp := preS_of_valid h
  cases L with
  | nil => simp
  | cons x r => have := hp 0 (by simp) (by simp); simp at this ⊢; omega
def tsum (n : Nat) (x : Int) : Int := sumL ((List.range n).map fun (j : Nat) => if (j : Int) + 1 ≤ x then 1 else 0)
theorem tsum_le (n : Nat) (x : Int) (hx : 0 ≤ x) : tsum n x ≤ x ∧ tsum n x ≤ n := by
  induction n with
  | zero => simp [tsum, sumL]; exact hx
  | succ n ih =>
    have e : tsum (n + 1) x = tsum n x + if (n : Int) + 1 ≤ x then 1 else 0 := by
      simp [tsum, List.range_succ, sumL_append, sumL]
    rw [e]
    split <;> omega
theorem csum_le (n : Nat) (L : List Int) (h : ∀ x ∈ L, 0 ≤ x) : sumL ((List.range n).map fun (j : Nat) => cnt ((j : Int) + 1) L) ≤ sumL L := by
  induction L with
  | nil =>
    have : ∀ n : Nat, sumL ((List.range n).map fun (j : Nat) => cnt ((j : Int) + 1) []) = 0 := by
      intro n
      induction n with
      | zero => rfl
      | succ n ih => rw [List.range_succ, List.map_append, sumL_append, ih]; simp [cnt, sumL]
    rw [this]; simp [sumL]
  | cons x r ih =>
    have e : ∀ n : Nat, sumL ((List.range n).map fun (j : Nat) => cnt ((j : Int) + 1) (x :: r)) = tsum n x + sumL ((List.range n).map fun (j : Nat) => cnt ((j : Int) + 1) r) := by
      intro n
      induction n with
      | zero => rfl
      | succ n ih => 
        have e2 : tsum (n + 1) x = tsum n x + if (n : Int) + 1 ≤ x then 1 else 0 := by
          simp [tsum, List.range_succ, sumL_append, sumL]
        rw [List.range_succ, List.map_append, sumL_append, ih, List.map_append, sumL_append, e2]
        simp [cnt, sumL]; omega
    rw [e, sumL]
    have h1 := (tsum_le n x (h x (by simp))).1
    have h2 := ih (fun y hy => h y (by simp [hy]))
    omega
theorem valid_nonneg {L : List Int} (h : valid L = true) : ∀ x ∈ L, 0 ≤ x := by
  intro x hx
  obtain ⟨k, hk, rfl⟩ := List.getElem_of_mem hx
  have := preS_of_valid h k hk hk
  omega
theorem valid_conj {L : List Int} (h : valid L = true) : valid (conj L) = true := by
  have hb := valid_bd h
  have hc : ∀ k : Nat, cnt k L ≤ 16 := fun k => by have := (cnt_bd k L).2; omega
  unfold valid
  rw [vb_iff]
  refine ⟨fun k hk => ?_, fun _ => ?_⟩
  · rw [conj_get]
    rw [conj_len] at hk
    refine ⟨?_, by have := (cnt_bd ((k : Int) + 1) L).2; omega, fun h' => ?_⟩
    · cases L with
      | nil => simp at hk
      | cons x r =>
        simp at hk
        have := (cnt_bd ((k : Int) + 1) r).1
        rw [cnt, if_pos (by omega)]
        omega
    · rw [conj_get]
      exact cnt_anti (by omega) L
  · have := csum_le (L.headD 0).toNat L (valid_nonneg h)
    unfold conj
    omega
theorem conj_pad {L : List Int} (h : valid L = true) : ((List.range 16).map fun (j : Nat) => cnt ((j : Int) + 1) (pad L)) = pad (conj L) := by
  have hb := headD_bd h
  have hlen : (conj L).length ≤ 16 := by rw [conj_len]; omega
  apply List.ext_getElem
  · rw [pad_len hlen]; simp
  · intro k h1 h2
    simp at h1
    rw [List.getElem_map, List.getElem_range, cnt_pad (by omega)]
    by_cases hk : k < (conj L).length
    · rw [pad_get hlen hk, conj_get]
    · rw [pad_get0 hlen (by omega) h1]
      rw [conj_len] at hk
      exact cnt_none fun x hx => by have := head_ge h x hx; omega
end NP
namespace NP
theorem tsum_eq (n : Nat) (x : Int) (hx : 0 ≤ x) (hn : x ≤ n) : tsum n x = x := by
  have key : ∀ k : Nat, tsum k x = if (k : Int) ≤ x then (k : Int) else x := by
    intro k
    induction k with
    | zero => simp [tsum, sumL]; omega
    | succ k ih =>
      have e : tsum (k + 1) x = tsum k x + if (k : Int) + 1 ≤ x then 1 else 0 := by
        simp [tsum, List.range_succ, sumL_append, sumL]
      rw [e, ih]
      (repeat' split) <;> omega
  rw [key]
  split <;> omega
theorem csum_eq (n : Nat) (L : List Int) (h : ∀ x ∈ L, 0 ≤ x ∧ x ≤ n) : sumL ((List.range n).map fun (j : Nat) => cnt ((j : Int) + 1) L) = sumL L := by
  induction L with
  | nil =>
    have : ∀ n : Nat, sumL ((List.range n).map fun (j : Nat) => cnt ((j : Int) + 1) []) = 0 := by
      intro n
      induction n with
      | zero => rfl
      | succ n ih => rw [List.range_succ, List.map_append, sumL_append, ih]; simp [cnt, sumL]
    rw [this]; simp [sumL]
  | cons x r ih =>
    have e : ∀ n : Nat, sumL ((List.range n).map fun (j : Nat) => cnt ((j : Int) + 1) (x :: r)) = tsum n x + sumL ((List.range n).map fun (j : Nat) => cnt ((j : Int) + 1) r) := by
      intro n
      induction n with
      | zero => rfl
      | succ n ih =>
        have e2 : tsum (n + 1) x = tsum n x + if (n : Int) + 1 ≤ x then 1 else 0 := by
          simp [tsum, List.range_succ, sumL_append, sumL]
        rw [List.range_succ, List.map_append, sumL_append, ih, List.map_append, sumL_append, e2]
        simp [cnt, sumL]; omega
    have hx := h x (by simp)
    rw [e, tsum_eq n x hx.1 hx.2, sumL, ih (fun y hy => h y (by simp [hy]))]
theorem sumL_conj {L : List Int} (h : valid L = true) : sumL (conj L) = sumL L := by
  unfold conj
  refine csum_eq _ _ fun x hx => ?_
  have h1 := valid_nonneg h x hx
  have h2 := head_ge h x hx
  omega
end NP
namespace NP
theorem falls_all {L : List Int} (h : valid L = true) : ∀ i j (hi : i < L.length) (_ : j ≤ i), L[i] ≤ L[j]'(by omega) := by
  have hp := preS_of_valid h
  intro i
  induction i with
  | zero => intro j hi hj; obtain rfl : j = 0 := (by omega); exact Int.le_refl _
  | succ i ih =>
    intro j hi hj
    rcases Nat.lt_or_ge j (i + 1) with h1 | h1
    · have h2 := (hp (i + 1) hi hi).2.2 (by omega)
      simp at h2
      have := ih j (by omega) (by omega)
      omega
    · obtain rfl : j = i + 1 := by omega
      omega
theorem cnt_all {t : Int} {L : List Int} (h : ∀ x ∈ L, t ≤ x) : cnt t L = L.length := by
  induction L with
  | nil => rfl
  | cons x r ih =>
    rw [cnt, ih (fun y hy => h y (by simp [hy])), if_pos (h x (by simp))]
    simp; omega
theorem cnt_ge_iff {L : List Int} (h : valid L = true) {k : Nat} (hk : k < L.length) (t : Int) : ((k : Int) + 1 ≤ cnt t L) ↔ t ≤ L[k] := by
  have hf := falls_all h
  constructor
  · intro h1
    rcases Int.lt_or_le L[k] t with h2 | h2
    · have e : L = L.take k ++ L.drop k := (List.take_append_drop k L).symm
      rw [e, cnt_append] at h1
      have e2 : cnt t (L.drop k) = 0 := cnt_none fun x hx => by
        obtain ⟨i, hi, rfl⟩ := List.getElem_of_mem hx
        simp at hi ⊢
        have := hf (k + i) k (by omega) (by omega)
        omega
      have := (cnt_bd t (L.take k)).2
      simp at this
      omega
    · exact h2
  · intro h1
    have e : L = L.take (k + 1) ++ L.drop (k + 1) := (List.take_append_drop (k + 1) L).symm
    rw [e, cnt_append]
    have e2 : cnt t (L.take (k + 1)) = (L.take (k + 1)).length := cnt_all fun x hx => by
      obtain ⟨i, hi, rfl⟩ := List.getElem_of_mem hx
      simp at hi ⊢
      have := hf k i hk (by omega)
      omega
    have := (cnt_bd t (L.drop (k + 1))).1
    rw [e2]
    simp
    omega
theorem cnt_range (n : Nat) (f : Nat → Int) (t m : Int) (hm : 0 ≤ m) (hf : ∀ j : Nat, j < n → (t ≤ f j ↔ (j : Int) + 1 ≤ m)) : cnt t ((List.range n).map f) = if (n : Int) ≤ m then (n : Int) else m := by
  induction n with
  | zero => simp [cnt]; omega
  | succ n ih =>
    rw [List.range_succ, List.map_append, cnt_append, ih (fun j hj => hf j (by omega))]
    have h1 := hf n (by omega)
    simp only [List.map_cons, List.map_nil, cnt]
    by_cases h2 : (n : Int) + 1 ≤ m
    · rw [if_pos (h1.2 h2)]; (repeat' split) <;> omega
    · rw [if_neg (fun h3 => h2 (h1.1 h3))]; (repeat' split) <;> omega
theorem cnt_one {L : List Int} (h : valid L = true) : cnt 1 L = L.length := cnt_all fun x hx => by
  obtain ⟨k, hk, rfl⟩ := List.getElem_of_mem hx
  exact (preS_of_valid h k hk hk).1
theorem headD_get (M : List Int) (h : 0 < M.length) : M.headD 0 = M[0] := by cases M <;> simp at h ⊢
theorem head_conj {L : List Int} (h : valid L = true) : ((conj L).headD 0).toNat = L.length := by
  cases L with
  | nil => rfl
  | cons x r =>
    have hp := preS_of_valid h 0 (by simp) (by simp)
    simp at hp
    have h1 : 0 < (conj (x :: r)).length := by rw [conj_len]; simp; omega
    rw [headD_get _ h1, conj_get]
    simp only [Int.ofNat_zero, Int.zero_add]
    have := cnt_one h
    simp at this ⊢
    rw [this]
    omega
theorem conj_conj {L : List Int} (h : valid L = true) : conj (conj L) = L := by
  apply List.ext_getElem
  · rw [conj_len, head_conj h]
  · intro k h1 h2
    rw [conj_get]
    have hb := preS_of_valid h k h2 h2
    have hh := head_ge h L[k] (List.getElem_mem h2)
    have hd := headD_bd h
    have e : cnt ((k : Int) + 1) (conj L) = if (((L.headD 0).toNat : Nat) : Int) ≤ L[k] then (((L.headD 0).toNat : Nat) : Int) else L[k] :=
      cnt_range _ _ _ _ (by omega) fun j hj => cnt_ge_iff h h2 ((j : Int) + 1)
    rw [e]
    split <;> omega
theorem conj_nil_iff {L : List Int} (h : valid L = true) : (conj L).length = 0 ↔ L.length = 0 := by
  rw [conj_len]
  cases L with
  | nil => simp
  | cons x r =>
    have hp := preS_of_valid h 0 (by simp) (by simp)
    simp at hp ⊢
    omega
end NP
namespace NP
theorem ffrom_spec (p : Nat → Bool) : ∀ (f k : Nat), k ≤ ffrom p f k ∧ ffrom p f k ≤ k + f ∧ (∀ j, k ≤ j → j < ffrom p f k → p j = true) ∧ (ffrom p f k = k + f ∨ p (ffrom p f k) = false) := by
  intro f
  induction f with
  | zero => intro k; simp only [ffrom]; exact ⟨Nat.le_refl _, Nat.le_refl _, fun j h1 h2 => by omega, .inl rfl⟩
  | succ f ih =>
    intro k
    simp only [ffrom]
    cases hp : p k with
    | true =>
      rw [if_pos rfl]
      have h := ih (k + 1)
      refine ⟨by omega, by omega, fun j h1 h2 => ?_, h.2.2.2.imp (by omega) id⟩
      rcases Nat.lt_or_ge k j with h3 | h3
      · exact h.2.2.1 j (by omega) h2
      · obtain rfl : j = k := by omega
        exact hp
    | false => rw [if_neg (by simp)]; exact ⟨Nat.le_refl _, by omega, fun j h1 h2 => by omega, .inr hp⟩
theorem ff_spec (p : Nat → Bool) (n : Nat) : ff p n ≤ n ∧ (∀ j, j < ff p n → p j = true) ∧ (ff p n = n ∨ p (ff p n) = false) := by
  have h := ffrom_spec p n 0
  exact ⟨by have := h.2.1; unfold ff; omega, fun j hj => h.2.2.1 j (Nat.zero_le _) hj, by have := h.2.2.2; unfold ff; rw [Nat.zero_add] at this; exact this⟩
def durS (L : List Int) : Nat := ff (fun (k : Nat) => decide ((k : Int) < L.getD k 0)) L.length
theorem durS_spec (L : List Int) : durS L ≤ L.length ∧ (∀ j : Nat, j < durS L → (j : Int) < L.getD j 0) ∧ ¬ ((durS L : Nat) : Int) < L.getD (durS L) 0 := by
  have h := ff_spec (fun (k : Nat) => decide ((k : Int) < L.getD k 0)) L.length
  refine ⟨h.1, fun j hj => by simpa using h.2.1 j hj, ?_⟩
  rcases h.2.2 with h1 | h1
  · unfold durS
    rw [h1, List.getD_eq_getElem?_getD, List.getElem?_eq_none (Nat.le_refl _)]
    simp
  · unfold durS
    exact of_decide_eq_false h1
theorem durS_unique {L : List Int} {d : Nat} (h1 : ∀ j : Nat, j < d → (j : Int) < L.getD j 0) (h2 : ¬ (d : Int) < L.getD d 0) : durS L = d := by
  have h := durS_spec L
  rcases Nat.lt_trichotomy (durS L) d with h3 | h3 | h3
  · exact absurd (h1 _ h3) h.2.2
  · exact h3
  · exact absurd (h.2.1 _ h3) h2
theorem getD_lt {L : List Int} {j : Nat} (h : j < L.length) : L.getD j 0 = L[j] := by rw [List.getD_eq_getElem?_getD, List.getElem?_eq_getElem h]; rfl
theorem getD_ge {L : List Int} {j : Nat} (h : L.length ≤ j) : L.getD j 0 = 0 := by rw [List.getD_eq_getElem?_getD, List.getElem?_eq_none h]; rfl
theorem conj_diag {L : List Int} (h : valid L = true) (j : Nat) : ((j : Int) < (conj L).getD j 0) ↔ (j : Int) < L.getD j 0 := by
  have hd := headD_bd h
  by_cases h1 : j < (conj L).length
  · rw [getD_lt h1, conj_get]
    by_cases h2 : j < L.length
    · rw [getD_lt h2]
      have := cnt_ge_iff h h2 ((j : Int) + 1)
      omega
    · rw [getD_ge (by omega)]
      have := (cnt_bd ((j : Int) + 1) L).2
      omega
  · rw [getD_ge (L := conj L) (by omega)]
    rw [conj_len] at h1
    by_cases h2 : j < L.length
    · rw [getD_lt h2]
      have := head_ge h L[j] (List.getElem_mem h2)
      omega
    · rw [getD_ge (by omega)]
theorem durS_conj {L : List Int} (h : valid L = true) : durS (conj L) = durS L := by
  have hs := durS_spec L
  exact durS_unique (fun j hj => (conj_diag h j).2 (hs.2.1 j hj)) (fun h1 => hs.2.2 ((conj_diag h _).1 h1))
theorem sum_ge (c : Int) (L : List Int) (h : ∀ x ∈ L, c ≤ x) : c * L.length ≤ sumL L := by
  induction L with
  | nil => simp [sumL]
  | cons x r ih =>
    have h1 := ih (fun y hy => h y (by simp [hy]))
    have h2 := h x (by simp)
    simp only [sumL, List.length_cons]
    have e : c * ((r.length + 1 : Nat) : Int) = c * (r.length : Int) + c := by rw [Int.natCast_add]; simp [Int.mul_add]
    omega
theorem durS_sq {L : List Int} (h : valid L = true) : ((durS L : Nat) : Int) * ((durS L : Nat) : Int) ≤ sumL L := by
  have hs := durS_spec L
  have hf := falls_all h
  have h1 := sum_ge ((durS L : Nat) : Int) (L.take (durS L)) fun x hx => by
    obtain ⟨i, hi, rfl⟩ := List.getElem_of_mem hx
    simp at hi ⊢
    have h2 := hs.2.1 (durS L - 1) (by omega)
    rw [getD_lt (by omega)] at h2
    have := hf (durS L - 1) i (by omega) (by omega)
    omega
  have h2 := sum_ge 0 (L.drop (durS L)) fun x hx => valid_nonneg h x (List.mem_of_mem_drop hx)
  have e : sumL L = sumL (L.take (durS L)) + sumL (L.drop (durS L)) := by rw [← sumL_append, List.take_append_drop]
  rw [List.length_take_of_le hs.1] at h1
  omega
theorem durS_pos {L : List Int} (h : valid L = true) : 0 < durS L ↔ 0 < L.length := by
  have hs := durS_spec L
  constructor
  · intro h1; omega
  · intro h1
    rcases Nat.eq_zero_or_pos (durS L) with h2 | h2
    · have h3 := hs.2.2
      rw [h2, getD_lt h1] at h3
      have := preS_of_valid h 0 h1 h1
      omega
    · exact h2
end NP
end Go.Proofs.Ytgkghebjaedjmaa
namespace Go.Proofs.Ytgkghebjaedjmaa
open Go.RowKit

def Rd (w : World) (B : Nat) (a : Option Addr) (vs : List Value) : Prop :=
  vs ≠ [] → ∃ b o, a = some ⟨b, o, none⟩ ∧ b < B ∧ ∀ k v, vs[k]? = some v → w.cell? ⟨b, o + k, none⟩ = some v

theorem ret_i64 {a b : Int} (h : a = b) : Ending.returned (.int .i64 a) = .returned (.int .i64 b) := by rw [h]
theorem ret_bool {a b : Bool} (h : a = b) : Ending.returned (.bool a) = .returned (.bool b) := by rw [h]
abbrev ints (L : List Int) : List Value := L.map (Value.int .i64)

theorem Rd.at_ {w : World} {B : Nat} {a : Option Addr} {L : List Int} (h : Rd w B a (ints L)) {k : Nat} (hk : k < L.length) :
    ∃ b o, a = some ⟨b, o, none⟩ ∧ b < B ∧ w.cell? ⟨b, o + k, none⟩ = some (.int .i64 L[k]) := by
  obtain ⟨b, o, h1, h2, h3⟩ := h (by intro e; simp at e; subst e; simp at hk)
  exact ⟨b, o, h1, h2, h3 k _ (by simp [hk])⟩

theorem Rd.below {w w' : World} {B : Nat} {a : Option Addr} {vs : List Value} (h : Rd w B a vs) (hb : Below B w w') : Rd w' B a vs := fun hne => by
  obtain ⟨b, o, h1, h2, h3⟩ := h hne
  exact ⟨b, o, h1, h2, fun k v hv => (hb.cell (p := ⟨b, o + k, none⟩) h2).trans (h3 k v hv)⟩

theorem Rd.more {w : World} {B B' : Nat} {a : Option Addr} {vs : List Value} (h : Rd w B a vs) (hB : B ≤ B') : Rd w B' a vs := fun hne => by
  obtain ⟨b, o, h1, h2, h3⟩ := h hne
  exact ⟨b, o, h1, by omega, h3⟩

/-- nothing has turned but draws -/
def Dr (w w' : World) : Prop := ∃ n, w' = w.drewN n
theorem Dr.refl (w : World) : Dr w w := ⟨0, rfl⟩
theorem Dr.n (w : World) (n : Nat) : Dr w (w.drewN n) := ⟨n, rfl⟩
theorem Dr.trans {a b c : World} (h : Dr a b) (k : Dr b c) : Dr a c := by
  obtain ⟨n, rfl⟩ := h
  obtain ⟨m, rfl⟩ := k
  exact ⟨n + m, by rw [World.drewN_drewN]⟩
theorem Dr.drewN {a b : World} (h : Dr a b) (n : Nat) : Dr a (b.drewN n) := h.trans ⟨n, rfl⟩
theorem Dr.below {w w' : World} (h : Dr w w') (B : Nat) : Below B w w' := by
  obtain ⟨n, rfl⟩ := h
  exact ⟨rfl, rfl, rfl, Nat.le_refl _, fun _ _ => rfl⟩
theorem Dr.size {w w' : World} (h : Dr w w') : w'.heap.size = w.heap.size := by
  obtain ⟨n, rfl⟩ := h
  rfl
theorem Rd.dr {w w' : World} {B : Nat} {a : Option Addr} {vs : List Value} (h : Rd w B a vs) (hb : Dr w w') : Rd w' B a vs := h.below (hb.below B)

/-- a row of the call's own in a block from lo up to hi -/
structure Own (w : World) (lo hi : Nat) (e : TypeId) (v : Value) (vs : List Value) : Prop where
  row : w.ownsRow lo e 1 v vs.length vs
  lt : ∀ g, v.ownBlock = some g → g < hi
  le : hi ≤ w.heap.size

section
variable {w w' : World} {lo hi : Nat} {e : TypeId} {v : Value} {vs : List Value}

theorem ownsRow_keep {n : Nat} (h : w.ownsRow lo e 1 v n vs) (hk : ∀ g, v.ownBlock = some g → w'.heap[g]? = w.heap[g]?) : w'.ownsRow lo e 1 v n vs := by
  refine ⟨h.1, ?_⟩
  rcases h.2 with hn | ⟨g, cap, cur, rfl, hb, hg, rest⟩
  · exact .inl hn
  · exact .inr ⟨g, cap, cur, rfl, hb, (hk g rfl).trans hg, rest⟩

theorem Own.keep (h : Own w lo hi e v vs) (hs : w.heap.size ≤ w'.heap.size) (hk : ∀ g, v.ownBlock = some g → w'.heap[g]? = w.heap[g]?) : Own w' lo hi e v vs :=
  ⟨ownsRow_keep h.row hk, h.lt, Nat.le_trans h.le hs⟩
theorem Own.below (h : Own w lo hi e v vs) (hb : Below hi w w') : Own w' lo hi e v vs :=
  h.keep hb.size fun g hg => hb.block g (h.lt g hg)
theorem Own.alloc (h : Own w lo hi e v vs) (o : Obj) : Own (w.alloc o) lo hi e v vs :=
  h.keep (by simp) fun g hg => Below.heap_alloc w o g (Nat.lt_of_lt_of_le (h.lt g hg) h.le)
theorem Own.drew (h : Own w lo hi e v vs) : Own w.drew lo hi e v vs := ⟨h.row, h.lt, h.le⟩
theorem Own.drewN (h : Own w lo hi e v vs) (n : Nat) : Own (w.drewN n) lo hi e v vs := ⟨h.row, h.lt, h.le⟩
theorem Own.more (h : Own w lo hi e v vs) : Own w lo w.heap.size e v vs := ⟨h.row, fun g hg => Nat.lt_of_lt_of_le (h.lt g hg) h.le, Nat.le_refl _⟩
theorem Own.form (h : Own w lo hi e v vs) : ∃ a c, v = .slice a vs.length c := by
  rcases h.row.2 with ⟨h1, h2⟩ | ⟨g, cap, cur, h1, _⟩
  · exact ⟨none, 0, by rw [h1, h2]⟩
  · exact ⟨_, _, h1⟩
theorem Own.rd {a : Option Addr} {n c : Nat} (h : Own w lo hi e (.slice a n c) vs) : Rd w hi a vs := fun hne => by
  rcases h.row.2 with ⟨h1, h2⟩ | ⟨g, cap, cur, hv, _, hg, _, _, _, ht⟩
  · exact absurd (List.eq_nil_of_length_eq_zero h2) hne
  · injection hv with ha hn hc
    subst ha
    refine ⟨g, 0, rfl, h.lt g rfl, fun k v hk => ?_⟩
    rw [cell_of_row w g (0 + k) cur e (0, 0) hg, Nat.zero_add]
    rw [← ht, List.getElem?_take] at hk
    split at hk
    · simpa using hk
    · cases hk
theorem Own.nil (w : World) (lo : Nat) (e : TypeId) : Own w lo w.heap.size e (.slice none 0 0) [] :=
  ⟨World.ownsRow_nil w lo e 1, fun g hg => by simp [Value.ownBlock] at hg, Nat.le_refl _⟩
theorem Own.lower {lo' : Nat} (h : Own w lo hi e v vs) (hl : lo' ≤ lo) : Own w lo' hi e v vs :=
  ⟨⟨h.row.1, h.row.2.imp id fun ⟨g, cap, cur, h1, h2, h3⟩ => ⟨g, cap, cur, h1, Nat.le_trans hl h2, h3⟩⟩, h.lt, h.le⟩
theorem Own.len {a : Option Addr} {n c : Nat} (h : Own w lo hi e (.slice a n c) vs) : n = vs.length := by
  obtain ⟨a', c', hv⟩ := h.form
  injection hv
end

theorem Own.at_ {w : World} {lo hi : Nat} {e : TypeId} {v : Value} {vs : List Value} (h : Own w lo hi e v vs) {k : Nat} (hk : k < vs.length) :
    ∃ g c, v = .slice (some ⟨g, 0, none⟩) vs.length c ∧ lo ≤ g ∧ g < hi ∧ w.cell? ⟨g, k, none⟩ = some vs[k] ∧ w.frozen? ⟨g, k, none⟩ = false := by
  rcases h.row.2 with ⟨h1, h2⟩ | ⟨g, cap, cur, rfl, hb, hg, _, _, _, ht⟩
  · omega
  · refine ⟨g, cap, rfl, hb, h.lt g rfl, ?_, frozen_of_row w g k cur e hg⟩
    rw [cell_of_row w g k cur e (0, 0) hg]
    have h3 : vs[k]? = some vs[k] := List.getElem?_eq_getElem hk
    have h4 : (cur.toList.take (vs.length * 1))[k]? = some vs[k] := by rw [ht]; exact h3
    rw [List.getElem?_take] at h4
    split at h4
    · simpa using h4
    · cases h4
theorem Own.spot {w : World} {lo hi : Nat} {e : TypeId} {a : Option Addr} {n c : Nat} {vs : List Value} (h : Own w lo hi e (.slice a n c) vs) {k : Nat} (hk : k < vs.length) :
    ∃ g u, a = some ⟨g, 0, none⟩ ∧ lo ≤ g ∧ g < hi ∧ w.cell? ⟨g, k, none⟩ = some u ∧ w.frozen? ⟨g, k, none⟩ = false := by
  obtain ⟨g, c', h1, h2, h3, h4, h5⟩ := h.at_ hk
  injection h1 with h1 _ _
  exact ⟨g, _, h1, h2, h3, h4, h5⟩
theorem Own.set {w : World} {lo hi : Nat} {e : TypeId} {g n c : Nat} {vs : List Value} (h : Own w lo hi e (.slice (some ⟨g, 0, none⟩) n c) vs) (k : Nat) (u : Value) : Own (w.setCell ⟨g, k, none⟩ u) lo hi e (.slice (some ⟨g, 0, none⟩) n c) (vs.set k u) := by
  have hn := h.len
  subst hn
  have h1 := h.row.stored k u
  refine ⟨?_, h.lt, ?_⟩
  · rw [List.length_set]; exact h1.1
  · have := h.le; simpa [World.setCell] using this
theorem Own.off {w : World} {lo hi : Nat} {e : TypeId} {v : Value} {vs : List Value} (h : Own w lo hi e v vs) {p : Addr} (hp : ∀ g, v.ownBlock = some g → g ≠ p.block) (u : Value) : Own (w.setCell p u) lo hi e v vs :=
  h.keep (by simp [World.setCell]) fun g hg => Below.heap_setCell w p u g (hp g hg)
theorem Own.grown {w w' : World} {lo hi : Nat} {e : TypeId} {v : Value} {vs : List Value} {row : Option Nat} (h : Own w lo hi e v vs) (hg : w.grownBy w' row) (hr : v.ownBlock = none ∨ v.ownBlock ≠ row) : Own w' lo hi e v vs :=
  h.keep hg.size fun g hgv => hg.block g (Nat.lt_of_lt_of_le (h.lt g hgv) h.le) (by
    rcases hr with hr | hr
    · rw [hr] at hgv; cases hgv
    · rw [← hgv]; exact hr)
theorem Own.dr {w w' : World} {lo hi : Nat} {e : TypeId} {v : Value} {vs : List Value} (h : Own w lo hi e v vs) (hd : Dr w w') : Own w' lo hi e v vs := h.below (hd.below hi)

/-- append to a row of the call's own, out of whatever can be read -/
theorem run_append_o {P : Program} (w : World) (lo hi : Nat) (t ty e : TypeId) (i : TypeInfo) (z : Value) (bytes : Nat) (ht : P.underlying t = some (.slice e)) (hi0 : P.info? e = some i) (hz : i.zero = some z)
    (hsize : i.size = 1) (hby : i.bytes = bytes) (hzs : z.cells.size = 1) {v : Value} {vs : List Value} (hown : Own w lo hi e v vs)
    {B : Nat} {A : Option Addr} {m c : Nat} {news : List Value} (hr : Rd w B A news) (hm : m = news.length) (h1 : ∀ u ∈ news, u.oneCell' = true)
    (h63 : vs.length + m ≤ maxLen) (hbytes : (vs.length + m) * bytes ≤ 140737488355328) (hlo : lo ≤ w.heap.size) :
    ∃ v' w', (Builtin.append_ #[t, t] ty #[v, .slice A m c]).run P w = .ok v' w' ∧ Own w' lo w'.heap.size e v' (vs ++ news) ∧ w.grownBy w' v.ownBlock ∧ (v'.ownBlock = v.ownBlock ∨ v'.ownBlock = some w.heap.size) := by
  subst hm
  by_cases hn : news = []
  · subst hn
    refine ⟨v, w, ?_, by simpa using hown.more, World.grownBy.refl w _, .inl rfl⟩
    rcases hown.row.2 with ⟨rfl, h0⟩ | ⟨g, cap, cur, rfl, _, _, hnc, _⟩
    · simp [Builtin.append_, run_underlying ht, sizeOf, typeInfo, hi0, Builtin.lenOf, Builtin.firstCells]
      cases A <;> simp [loadCells, loadCellsFrom]
    · simp [Builtin.append_, run_underlying ht, sizeOf, typeInfo, hi0, Builtin.lenOf, Builtin.firstCells, hnc, storeCells]
      cases A <;> simp [loadCells, loadCellsFrom, storeCells]
  · obtain ⟨b, o, rfl, hb, hc⟩ := hr hn
    have hcells : ∀ j u, news[j]? = some u → w.cell? ((⟨b, o, none⟩ : Addr).add j) = some u := by
      intro j u hu
      rw [Addr.add_lit]
      exact hc j u hu
    obtain ⟨v', w', hrun, h2, h3, _, h5⟩ := run_append_own_at (P := P) w lo t ty e i z 1 bytes ht hi0 hz hsize hby hzs (by omega) v _ vs hown.row ⟨b, o, none⟩ news.length c news (by simp) hcells h1 h63 hbytes hlo
    refine ⟨v', w', hrun, ⟨by simpa using h2, fun g hg => (h2.lt g hg).2, Nat.le_refl _⟩, h3, h5⟩

theorem wpList_append_o {P : Program} (w : World) {ops : Array Oper} {rest : List Oper} {o : Oper} {a : Act} {Q : Exit → Act → World → Prop} (hgd : o.guard = none) (s x : Operand) (t : TypeId)
    (ho : o.op = .call { callee := .builtin .append, args := #[s, x], argTypes := #[t, t] })
    (lo hi : Nat) (e : TypeId) (i : TypeInfo) (z : Value) (bytes : Nat) (ht : P.underlying t = some (.slice e)) (hi0 : P.info? e = some i) (hz : i.zero = some z)
    (hsize : i.size = 1) (hby : i.bytes = bytes) (hzs : z.cells.size = 1) (v : Value) (vs : List Value) (hs : a.eval s = v) (hown : Own w lo hi e v vs)
    (B : Nat) (A : Option Addr) (m c : Nat) (news : List Value) (hx : a.eval x = .slice A m c) (hr : Rd w B A news) (hm : m = news.length) (h1 : ∀ u ∈ news, u.oneCell' = true)
    (h63 : vs.length + m ≤ maxLen) (hbytes : (vs.length + m) * bytes ≤ 140737488355328) (hlo : lo ≤ w.heap.size)
    (h : ∀ v' w', Own w' lo w'.heap.size e v' (vs ++ news) → w.grownBy w' v.ownBlock → (v'.ownBlock = v.ownBlock ∨ v'.ownBlock = some w.heap.size) → wpList P ops Q rest (a.put o.dst v') w') : wpList P ops Q (o :: rest) a w :=
  wpList_plain hgd fun _ hK => by
    obtain ⟨v', w', hrun, h2, h3, h4⟩ := run_append_o (P := P) w lo hi t o.type e i z bytes ht hi0 hz hsize hby hzs hown hr hm h1 h63 hbytes hlo
    unfold Oper.wp execOp
    simp only [ho, resolve, invoke, builtin, Sem.run_bind, Sem.run_pure, Result.andThen_ok, List.map_toArray, List.map_cons, List.map_nil, hs, hx]
    rw [hrun]
    exact hK _ _ (h v' w' h2 h3 h4)

theorem step_append_o {P : Program} (w : World) {ops : Array Oper} {o : Oper} {a : Act} {K : Act → World → Prop} {Q : Exit → Act → World → Prop} {E : Prop} (hgd : o.guard = none) (s x : Operand) (t : TypeId)
    (ho : o.op = .call { callee := .builtin .append, args := #[s, x], argTypes := #[t, t] })
    (lo hi : Nat) (e : TypeId) (i : TypeInfo) (z : Value) (bytes : Nat) (ht : P.underlying t = some (.slice e)) (hi0 : P.info? e = some i) (hz : i.zero = some z)
    (hsize : i.size = 1) (hby : i.bytes = bytes) (hzs : z.cells.size = 1) (v : Value) (vs : List Value) (hs : a.eval s = v) (hown : Own w lo hi e v vs)
    (B : Nat) (A : Option Addr) (m c : Nat) (news : List Value) (hx : a.eval x = .slice A m c) (hr : Rd w B A news) (hm : m = news.length) (h1 : ∀ u ∈ news, u.oneCell' = true)
    (h63 : vs.length + m ≤ maxLen) (hbytes : (vs.length + m) * bytes ≤ 140737488355328) (hlo : lo ≤ w.heap.size)
    (h : ∀ v' w', Own w' lo w'.heap.size e v' (vs ++ news) → w.grownBy w' v.ownBlock → (v'.ownBlock = v.ownBlock ∨ v'.ownBlock = some w.heap.size) → K (a.put o.dst v') w') :
    if Region.wanted o (yielded ops a.tmps) = true then Oper.wp P o a w K Q else E := by
  have hw : Region.wanted o (yielded ops a.tmps) = true := by simp [Region.wanted, hgd]
  rw [if_pos hw]
  obtain ⟨v', w', hrun, h2, h3, h4⟩ := run_append_o (P := P) w lo hi t o.type e i z bytes ht hi0 hz hsize hby hzs hown hr hm h1 h63 hbytes hlo
  unfold Oper.wp execOp
  simp only [ho, resolve, invoke, builtin, Sem.run_bind, Sem.run_pure, Result.andThen_ok, List.map_toArray, List.map_cons, List.map_nil, hs, hx]
  rw [hrun]
  exact h v' w' h2 h3 h4

/-- one new cell is readable -/
theorem Rd.one (w : World) (u : Value) (t : TypeId) : Rd (w.alloc (.cells #[u] t)) (w.heap.size + 1) (some ⟨w.heap.size, 0, none⟩) [u] := fun _ => by
  refine ⟨w.heap.size, 0, rfl, by omega, fun k v hk => ?_⟩
  match k, hk with
  | 0, hk => simp at hk; subst hk; simp

/-- an empty row that has just been laid -/
theorem Own.empty (w : World) (e : TypeId) : Own (w.alloc (.cells #[] e)) w.heap.size (w.heap.size + 1) e (.slice (some ⟨w.heap.size, 0, none⟩) 0 0) [] :=
  ⟨⟨rfl, .inr ⟨w.heap.size, 0, #[], rfl, Nat.le_refl _, heap_alloc_new w _, Nat.le_refl _, Nat.zero_le _, rfl, rfl⟩⟩, fun g hg => by simp [Value.ownBlock] at hg; omega, by simp⟩
/-- one element appended, as the walk does it: laid into a block of its own first -/
theorem below_push {B : Nat} {w0 w w1 : World} {o : Obj} {row : Option Nat} (hb : Below B w0 w) (hB : B ≤ w0.heap.size) (hg : (w.alloc o).grownBy w1 row) (hr : ∀ g, row = some g → B ≤ g) : Below B w0 w1 := by
  have h1 := Nat.le_trans hB hb.size
  exact (hb.alloc h1 o).grown hg (by simp; omega) hr
theorem Own.base {w : World} {lo hi : Nat} {e : TypeId} {v : Value} {vs : List Value} (h : Own w lo hi e v vs) : ∀ g, v.ownBlock = some g → lo ≤ g := fun g hg => (h.row.lt g hg).1

theorem Own.above {w w' : World} {lo hi lox hix : Nat} {e ex : TypeId} {v vx : Value} {vs vxs : List Value} (h : Own w lo hi e v vs) (hx : Own w lox hix ex vx vxs) (hg : w.grownBy w' vx.ownBlock) (hd : hix ≤ lo) : Own w' lo hi e v vs :=
  h.keep hg.size fun g hgv => hg.block g (Nat.lt_of_lt_of_le (h.lt g hgv) h.le) (fun e => by
    have h1 := hx.lt g e.symm
    have h2 := h.base g hgv
    omega)
theorem Own.belowMark {w w' : World} {lo hi : Nat} {e : TypeId} {v : Value} {vs : List Value} (h : Own w lo hi e v vs) (hlo : lo ≤ w.heap.size) (hg : w.grownBy w' v.ownBlock) : Below lo w w' :=
  (Below.refl lo w).grown hg hlo h.base

/-- a slice of numbers that came in -/
def IsRow (k : IntKind) (w : World) (a : Option Addr) (len cap : Nat) (zs : List Int) : Prop :=
  (a = none ∧ len = 0 ∧ cap = 0 ∧ zs = []) ∨
  ∃ x, a = some x ∧ len ≤ cap ∧ cap ≤ maxLen ∧ zs.length = cap ∧ (∀ i, i < zs.length → w.cell? (x.add i) = some (.int k (zs.getD i 0))) ∧ ∀ n ∈ zs, (Lit.int k n).wf = true
theorem IsRow.rd {k : IntKind} {w : World} {a : Option Addr} {len cap : Nat} {zs : List Int} (h : IsRow k w a len cap zs) :
    ∃ L : List Int, L.length = len ∧ Rd w w.heap.size a (L.map (Value.int k)) ∧ (∀ n ∈ L, (Lit.int k n).wf = true) ∧ len ≤ maxLen := by
  rcases h with ⟨rfl, rfl, rfl, rfl⟩ | ⟨x, rfl, hl, hm, hz, hc, hw⟩
  · exact ⟨[], rfl, fun hne => absurd rfl hne, by simp, Nat.zero_le _⟩
  · refine ⟨zs.take len, by simp; omega, fun hne => ?_, fun n hn => hw n (List.mem_of_mem_take hn), by omega⟩
    have h0 : 0 < zs.length := by
      rcases Nat.eq_zero_or_pos zs.length with h0 | h0
      · have := List.eq_nil_of_length_eq_zero h0; subst this; simp at hne
      · exact h0
    obtain ⟨b, o, spot⟩ := x
    have hc0 := hc 0 h0
    have hspot : spot = none := by simpa [Addr.add] using World.cell?_spot hc0
    subst hspot
    have hlt := World.block_lt_of_cell? _ _ hc0
    refine ⟨b, o, rfl, by simpa [Addr.add] using hlt, fun j v hv => ?_⟩
    have hj : j < len ∧ j < zs.length := by
      have := (List.getElem?_eq_some_iff.1 hv).1
      simp at this
      omega
    have h1 := hc j hj.2
    rw [Addr.add_lit] at h1
    rw [h1]
    simp [hj.1, hj.2] at hv
    simp [List.getD, hj.2, hv]

theorem IsRow.lc {k : IntKind} {w : World} {a : Option Addr} {len cap : Nat} {zs : List Int} (h : IsRow k w a len cap zs) : len ≤ cap := by
  rcases h with ⟨rfl, rfl, rfl, rfl⟩ | ⟨x, rfl, hl, _⟩
  · exact Nat.le_refl _
  · exact hl
/-- a part of what can be read -/
theorem Rd.take {w : World} {B : Nat} {a : Option Addr} {vs : List Value} (h : Rd w B a vs) (k : Nat) : Rd w B a (vs.take k) := fun hne => by
  obtain ⟨b, o, h1, h2, h3⟩ := h (by rintro rfl; simp at hne)
  refine ⟨b, o, h1, h2, fun j v hv => h3 j v ?_⟩
  rw [List.getElem?_take] at hv
  split at hv
  · exact hv
  · cases hv
theorem Rd.dropAt {w : World} {B b o : Nat} {vs : List Value} (h : Rd w B (some ⟨b, o, none⟩) vs) (k : Nat) : Rd w B (some ⟨b, o + k, none⟩) (vs.drop k) := fun hne => by
  obtain ⟨b', o', h1, h2, h3⟩ := h (by rintro rfl; simp at hne)
  injection h1 with h1; injection h1 with e1 e2; subst e1 e2
  refine ⟨b, o + k, rfl, h2, fun j v hv => ?_⟩
  rw [List.getElem?_drop] at hv
  rw [Nat.add_assoc]
  exact h3 (k + j) v hv

/-- what stands from place q on, as Go cuts it -/
theorem Rd.cutAt {w : World} {B b cap : Nat} {vs : List Value} (h : Rd w B (some ⟨b, 0, none⟩) vs) (q : Nat) (hc : vs.length ≤ cap) : Rd w B (if cap = q then some ⟨b, 0, none⟩ else some ⟨b, q, none⟩) (vs.drop q) := by
  by_cases hq : cap = q
  · rw [List.drop_eq_nil_of_le (by omega)]
    exact fun hne => absurd rfl hne
  · rw [if_neg hq]
    have := h.dropAt q
    rwa [Nat.zero_add] at this
theorem Rd.grown {w w' : World} {B : Nat} {a : Option Addr} {vs : List Value} {row : Option Nat} (h : Rd w B a vs) (hg : w.grownBy w' row) (hB : B ≤ w.heap.size) (hr : ∀ g, row = some g → ∀ b o, a = some ⟨b, o, none⟩ → b ≠ g) : Rd w' B a vs := fun hne => by
  obtain ⟨b, o, h1, h2, h3⟩ := h hne
  exact ⟨b, o, h1, h2, fun k v hv => (World.cell?_of_block (hg.block b (by omega) (fun e => hr b e.symm b o h1 rfl))).trans (h3 k v hv)⟩

theorem step_append_b {P : Program} (w : World) {ops : Array Oper} {o : Oper} {a : Act} {K : Act → World → Prop} {Q : Exit → Act → World → Prop} {E : Prop} (hgd : o.guard = none) (s x : Operand) (t : TypeId)
    (ho : o.op = .call { callee := .builtin .append, args := #[s, x], argTypes := #[t, t] })
    (lo hi : Nat) (e : TypeId) (i : TypeInfo) (z : Value) (bytes : Nat) (ht : P.underlying t = some (.slice e)) (hi0 : P.info? e = some i) (hz : i.zero = some z)
    (hsize : i.size = 1) (hby : i.bytes = bytes) (hzs : z.cells.size = 1) (v : Value) (vs : List Value) (hs : a.eval s = v) (w0 : World) (hb : Below lo w0 w) (hlo0 : lo ≤ w0.heap.size) (hown : Own w lo hi e v vs)
    (B : Nat) (A : Option Addr) (m c : Nat) (news : List Value) (hx : a.eval x = .slice A m c) (hr : Rd w B A news) (hm : m = news.length) (h1 : ∀ u ∈ news, u.oneCell' = true)
    (h63 : vs.length + m ≤ 4194304) (hby2 : bytes ≤ 64)
    (h : ∀ v' w', Own w' lo w'.heap.size e v' (vs ++ news) → Below lo w0 w' → w.grownBy w' v.ownBlock → K (a.put o.dst v') w') :
    if Region.wanted o (yielded ops a.tmps) = true then Oper.wp P o a w K Q else E :=
  step_append_o w hgd s x t ho lo hi e i z bytes ht hi0 hz hsize hby hzs v vs hs hown B A m c news hx hr hm h1 (by unfold maxLen; omega)
    (Nat.le_trans (Nat.mul_le_mul h63 hby2) (by omega)) (Nat.le_trans hlo0 hb.size)
    fun v' w' h2 h3 _ => h v' w' h2 (hb.grown h3 (Nat.le_trans hlo0 hb.size) hown.base) h3
theorem own_empty1 {lo : Nat} (w : World) (e : TypeId) (hlo : lo ≤ w.heap.size) : Own (w.alloc (.cells #[] e)) lo (w.heap.size + 1) e (.slice (some ⟨w.heap.size, 0, none⟩) 0 0) [] := (Own.empty w e).lower hlo
theorem own_empty2 {lo : Nat} (w : World) (e : TypeId) (o : Obj) (hlo : lo ≤ w.heap.size) : Own ((w.alloc o).alloc (.cells #[] e)) lo (w.heap.size + 2) e (.slice (some ⟨w.heap.size + 1, 0, none⟩) 0 0) [] := by
  have h := (Own.empty (w.alloc o) e).lower (lo' := lo) (by simp; omega)
  simpa using h
theorem len_take {M : List Int} {q : Nat} (h : q ≤ M.length) : q = (ints (M.take q)).length := by simp; omega
theorem len_drop {M : List Int} {q : Nat} : M.length - q = (ints (M.drop q)).length := by simp
theorem ints_one (D : List Int) : ∀ v ∈ ints D, v.oneCell' = true := by
  intro v hv
  simp at hv
  obtain ⟨x, -, rfl⟩ := hv
  rfl

theorem Rd.alloc {w : World} {B : Nat} {a : Option Addr} {vs : List Value} (h : Rd w B a vs) (hB : B ≤ w.heap.size) (o : Obj) : Rd (w.alloc o) B a vs := h.below ((Below.refl B w).alloc hB o)
theorem Rd.drew {w : World} {B : Nat} {a : Option Addr} {vs : List Value} (h : Rd w B a vs) : Rd w.drew B a vs := h
theorem rd_one2 (w : World) (o : Obj) (u : Value) (t : TypeId) : Rd ((w.alloc o).alloc (.cells #[u] t)) (w.heap.size + 2) (some ⟨w.heap.size + 1, 0, none⟩) [u] := by
  have h := Rd.one (w.alloc o) u t
  simpa using h
theorem rd_one3 (w : World) (o : Obj) (u : Value) (t : TypeId) : Rd ((w.alloc (.cells #[u] t)).alloc o) (w.heap.size + 1) (some ⟨w.heap.size, 0, none⟩) [u] := (Rd.one w u t).alloc (by simp) o
theorem Rd.apart {w w' : World} {B x y n c : Nat} {vs : List Value} (h : Rd w B (some ⟨x, 0, none⟩) vs) (hg : w.grownBy w' (Value.slice (some ⟨y, 0, none⟩) n c).ownBlock) (hB : B ≤ w.heap.size) (hne : x ≠ y) : Rd w' B (some ⟨x, 0, none⟩) vs :=
  h.grown hg hB fun g hgg b o e => by simp [Value.ownBlock] at hgg; injection e with e; injection e with e; omega

theorem Own.formN {w : World} {lo hi : Nat} {e : TypeId} {v : Value} {vs : List Value} (h : Own w lo hi e v vs) (h0 : 0 < vs.length) : ∃ g c, v = .slice (some ⟨g, 0, none⟩) vs.length c ∧ vs.length ≤ c := by
  rcases h.row.2 with ⟨h1, h2⟩ | ⟨g, cap, cur, h1, _, _, h3, _⟩
  · omega
  · exact ⟨g, cap, h1, h3⟩

theorem Own.read {w : World} {lo hi : Nat} {e : TypeId} {a : Option Addr} {n c : Nat} {vs : List Value} (h : Own w lo hi e (.slice a n c) vs) {k : Nat} (hk : k < vs.length) : ∃ g, a = some ⟨g, 0, none⟩ ∧ w.cell? ⟨g, k, none⟩ = some vs[k] := by
  obtain ⟨g, c', h1, _, _, h4, _⟩ := h.at_ hk
  injection h1 with h1 _ _
  exact ⟨g, h1, h4⟩
end Go.Proofs.Ytgkghebjaedjmaa
namespace Go.Proofs.Ytgkghebjaedjmaa
open Go.RowKit NP
set_option maxRecDepth 8000
set_option linter.unusedVariables false

/-- what the sums on the way stay within -/
def sumFits (L : List Int) : Prop := ∀ k, k ≤ L.length → -4611686018427387904 ≤ sumL (L.take k) ∧ sumL (L.take k) ≤ 4611686018427387904
theorem sumFits.next {L : List Int} (h : sumFits L) {k : Nat} (hk : k < L.length) : -4611686018427387904 ≤ sumL (L.take k) + L[k] ∧ sumL (L.take k) + L[k] ≤ 4611686018427387904 := by
  have := h (k + 1) (by omega)
  rw [sumL_take_succ L k hk] at this
  exact this

theorem sum_any (a : Option Addr) (c B : Nat) (L : List Int) (w : World) (h : Rd w B a (ints L)) (hs : sumFits L) (hl : L.length ≤ 4611686018427387904) :
    Calls Try.prog 89 #[.slice a L.length c] w fun e w' => e = .returned (.int .i64 (sumL L)) ∧ w = w' := by
  go_enter Try.func89, Try.ntmps89
  go_wp2
  go_loop [3, 4] (fun s i => ∃ k : Nat, k ≤ L.length ∧ i = .int .i64 k ∧ s = .int .i64 (sumL (L.take k))) (fun _ i => L.length - (intOf i).toNat)
  case atStart => exact ⟨0, Nat.zero_le _, rfl, rfl⟩
  case round =>
    obtain ⟨k, hk, rfl, rfl⟩ := hrel
    by_cases hlt : k < L.length
    · obtain ⟨b, o, rfl, _, hc⟩ := h.at_ hlt
      have h1 := hs k hk
      have h2 := hs.next hlt
      have h3 := sumL_take_succ L k hlt
      have H3 := Lib.hid h3
      clear h3
      go_wp2
      go_round
      case rel => exact ⟨k + 1, by omega, by go_num, by rw [H3.out]⟩
      case measure => simp [intOf]; omega
    · go_wp2
      go_ret
      exact ⟨ret_i64 (by rw [List.take_of_length_le (by omega)]), rfl⟩

theorem inRange_yes (n lo hi : Int) (w : World) (h1 : lo ≤ n) (h2 : n ≤ hi) : Calls Try.prog 38 #[.int .i64 n, .int .i64 lo, .int .i64 hi] w fun e w' => e = .returned (.bool true) ∧ w' = w := by
  go_enter Try.func38, Try.ntmps38
  go_wp2
  go_ret
  exact ⟨rfl, rfl⟩
theorem inRange_no (n lo hi : Int) (w : World) (h : n < lo ∨ hi < n) : Calls Try.prog 38 #[.int .i64 n, .int .i64 lo, .int .i64 hi] w fun e w' => e = .returned (.bool false) ∧ w' = w := by
  by_cases h1 : lo ≤ n
  · have h2 : hi < n := by omega
    clear h
    go_enter Try.func38, Try.ntmps38
    go_wp2
    go_ret
    exact ⟨ret_bool (by simp; omega), rfl⟩
  · clear h
    go_enter Try.func38, Try.ntmps38
    go_wp2
    go_ret
    exact ⟨rfl, rfl⟩

theorem validParts_any (a : Option Addr) (c B : Nat) (L : List Int) (w : World) (h : Rd w B a (ints L)) (hl : L.length ≤ 4611686018427387904) :
    Calls Try.prog 65 #[.slice a L.length c] w fun e w' => e = .returned (.bool (valid L)) ∧ ∃ n, w' = w.drewN n := by
  go_enter Try.func65, Try.ntmps65
  go_wp2
  go_loopw [3] (fun i wr => ∃ k : Nat, k ≤ L.length ∧ i = .int .i64 k ∧ Dr w wr ∧ preS L k) (fun i _ => L.length - (intOf i).toNat)
  case atStart => exact ⟨0, Nat.zero_le _, rfl, Dr.refl _, fun j _ h => by omega⟩
  case round =>
    obtain ⟨k, hk, rfl, hdr, hpre⟩ := hrel
    by_cases hlt : k < L.length
    · have hR := h.dr hdr
      obtain ⟨b, o, rfl, hB, hc⟩ := hR.at_ hlt
      have HP := Lib.hid hpre
      have HN := Lib.hid (not_valid_at hlt)
      have HS := Lib.hid (preS_succ hlt hpre)
      clear hpre
      by_cases h12 : 1 ≤ L[k] ∧ L[k] ≤ 16
      · obtain ⟨h1, h2⟩ := h12
        by_cases h0 : k = 0
        · subst h0
          have hc' : wr.cell? ⟨b, o, none⟩ = some (.int .i64 L[0]) := hc
          go_wp2_with fail
          go_quiet ((go_at_call 38; exact Calls.quiet_of_same (inRange_yes _ _ _ _ h1 h2)))
          go_wp2
          go_roundw
          case rel => exact ⟨0 + 1, by omega, by go_num, hdr.drewN _, HS.out h1 h2 (by omega)⟩
          case measure => simp [intOf]; omega
        · have hk1 : k - 1 < L.length := by omega
          obtain ⟨b', o', e', -, hc2⟩ := hR.at_ hk1
          injection e' with e'; injection e' with e1 e2; subst e1 e2
          have h4 : (0 : Int) < k := by omega
          have h5 : 0 < k := by omega
          have h7 : 1 ≤ k := by omega
          by_cases h3 : L[k] ≤ L[k - 1]
          · go_wp2_with fail
            go_quiet ((go_at_call 38; exact Calls.quiet_of_same (inRange_yes _ _ _ _ h1 h2)))
            go_wp2
            go_roundw
            case rel => exact ⟨k + 1, by omega, by go_num, hdr.drewN _, HS.out h1 h2 (fun _ => h3)⟩
            case measure => simp [intOf]; omega
          · have hv : valid L = false := HN.out (fun hh => h3 (hh.2.2 h5))
            have HV := Lib.hid hv
            clear hv
            have h3' : L[k - 1] < L[k] := by omega
            go_wp2_with fail
            go_quiet ((go_at_call 38; exact Calls.quiet_of_same (inRange_yes _ _ _ _ h1 h2)))
            go_wp2
            go_ret
            exact ⟨ret_bool HV.out.symm, hdr.drewN _⟩
      · have hv : valid L = false := HN.out (fun hh => h12 ⟨hh.1, hh.2.1⟩)
        have HV := Lib.hid hv
        clear hv
        have h12' : L[k] < 1 ∨ 16 < L[k] := by omega
        clear h12
        have H12 := Lib.hid h12'
        clear h12'
        go_wp2_with fail
        go_quiet ((go_at_call 38; exact Calls.quiet_of_same (inRange_no _ _ _ _ H12.out)))
        go_wp2
        go_ret
        exact ⟨ret_bool HV.out.symm, hdr.drewN _⟩
    · obtain rfl : k = L.length := by omega
      by_cases hlen : L.length ≤ 16
      · have hfit : sumFits L := fun j hj => by have := preS_sum hpre j hj; omega
        have HV := Lib.hid (fun hs => valid_of_preS hpre hs)
        have HV2 := Lib.hid (fun hv : valid L = true => (valid_bd hv).2.1)
        by_cases hs : sumL L ≤ 16
        · go_wp2_with (go_at_call 89; refine (sum_any _ _ B L _ (h.dr hdr) hfit (by omega)).mono ?_; rintro e w' ⟨rfl, rfl⟩)
          go_ret
          exact ⟨ret_bool (HV.out hs).symm, hdr⟩
        · go_wp2_with (go_at_call 89; refine (sum_any _ _ B L _ (h.dr hdr) hfit (by omega)).mono ?_; rintro e w' ⟨rfl, rfl⟩)
          go_ret
          exact ⟨ret_bool (by cases hv : valid L with | false => (simp; omega) | true => exact absurd (HV2.out hv) (by omega)), hdr⟩
      · have HV2 := Lib.hid (fun hv : valid L = true => (valid_bd hv).2.2.2)
        go_wp2_with fail
        go_ret
        exact ⟨ret_bool (by cases hv : valid L with | false => simp | true => exact absurd (HV2.out hv) (by omega)), hdr⟩
end Go.Proofs.Ytgkghebjaedjmaa
namespace Go.Proofs.Ytgkghebjaedjmaa
open Go.RowKit

/-- block g holds just the cells cs of type t -/
def Blk (w : World) (g : Nat) (t : TypeId) (cs : Array Value) : Prop := w.heap[g]? = some (.cells cs t (0, 0))

section
variable {w w' : World} {g : Nat} {t : TypeId} {cs : Array Value}
theorem Blk.lt (h : Blk w g t cs) : g < w.heap.size := (Array.getElem?_eq_some_iff.1 h).1
theorem Blk.cell (h : Blk w g t cs) (i : Nat) : w.cell? ⟨g, i, none⟩ = cs[i]? := cell_of_row w g i cs t (0, 0) h
theorem Blk.free (h : Blk w g t cs) (i : Nat) : w.frozen? ⟨g, i, none⟩ = false := frozen_of_row w g i cs t h
theorem Blk.new (w : World) (t : TypeId) (cs : Array Value) : Blk (w.alloc (.cells cs t)) w.heap.size t cs := heap_alloc_new w _
theorem Blk.alloc (h : Blk w g t cs) (o : Obj) : Blk (w.alloc o) g t cs := (Below.heap_alloc w o g h.lt).trans h
theorem Blk.set (h : Blk w g t cs) (i : Nat) (u : Value) : Blk (w.setCell ⟨g, i, none⟩ u) g t (cs.setIfInBounds i u) := heap_setCell_same w g i cs t u h
theorem Blk.off (h : Blk w g t cs) {p : Addr} (hp : g ≠ p.block) (u : Value) : Blk (w.setCell p u) g t cs := (Below.heap_setCell w p u g hp).trans h
theorem Blk.below {B : Nat} (h : Blk w g t cs) (hb : Below B w w') (hg : g < B) : Blk w' g t cs := (hb.block g hg).trans h
theorem Blk.drewN (h : Blk w g t cs) (n : Nat) : Blk (w.drewN n) g t cs := h
theorem Blk.drew (h : Blk w g t cs) : Blk w.drew g t cs := h
theorem Blk.grown {row : Option Nat} (h : Blk w g t cs) (hb : w.grownBy w' row) (hg : some g ≠ row) : Blk w' g t cs := (hb.block g h.lt hg).trans h
theorem Blk.row {vs : Array Value} (h : Blk w g t cs) : Blk (w.setRow g vs) g t vs := setRow_heap w g cs vs t (0, 0) h
theorem Blk.rowOff {g' : Nat} {vs : Array Value} (h : Blk w g t cs) (hg : g ≠ g') : Blk (w.setRow g' vs) g t cs := (setRow_other w g' g vs hg).trans h
theorem below_setRow' {B : Nat} {a : World} (h : Below B a w) (hg : B ≤ g) (vs : Array Value) : Below B a (w.setRow g vs) := below_setRow h hg vs
end

section
variable {P : Program}
theorem run_storeVar_row (w : World) (g : Nat) (t ty : TypeId) (cs vs : Array Value) (hg : Blk w g t cs) (hi : (P.info? ty).map (·.size) = some vs.size) (hs : vs.size = cs.size) (h1 : ∀ v ∈ vs.toList, v.oneCell' = true) :
    (storeVar ty ⟨g, 0, none⟩ (.agg vs)).run P w = .ok () (w.setRow g vs) := by
  cases hq : P.info? ty with
  | none => simp [hq] at hi
  | some i =>
    have hz : i.size = vs.size := by simpa [hq] using hi
    have hst := run_storeCells_at P g 0 t vs.toList 0 cs w hg (by simp; omega) h1
    simp only [Nat.add_zero, List.take_zero, List.nil_append, Nat.zero_add, Array.length_toList] at hst
    rw [List.drop_eq_nil_of_le (by simp; omega), List.append_nil, Array.toArray_toList] at hst
    simp [storeVar, Sem.run_bind, sizeOf, typeInfo, hq, hz, Value.cells, hst]

theorem wpList_store_row {ops : Array Oper} {rest : List Oper} {o : Oper} {a : Act} {w : World} {Q : Exit → Act → World → Prop} (hgd : o.guard = none) (ty : TypeId) (x v : Operand) (ho : o.op = .store ty x v)
    (g : Nat) (hx : a.eval x = .pointer (some ⟨g, 0, none⟩)) (vs : Array Value) (hv : a.eval v = .agg vs) (t : TypeId) (cs : Array Value) (hg : Blk w g t cs)
    (hi : (P.info? ty).map (·.size) = some vs.size) (hs : vs.size = cs.size) (h1 : ∀ v ∈ vs.toList, v.oneCell' = true)
    (h : wpList P ops Q rest (a.put o.dst undef) (w.setRow g vs)) : wpList P ops Q (o :: rest) a w :=
  wpList_plain hgd fun _ hK => by
    unfold Oper.wp execOp
    simp only [ho, hx, hv, Instr.storeAt, Instr.sureAddr, Sem.run_bind, Sem.run_pure, Result.andThen_ok, run_storeVar_row w g t ty cs vs hg hi hs h1]
    exact hK _ _ h

theorem run_index_row (T e : TypeId) (d : TypeDesc) (n : Nat) (hT : P.underlying T = some (.array n e)) (he : P.underlying e = some d) (hd : (match d with | .struct _ | .array _ _ => true | _ => false) = false) (hc : (P.info? e).map (·.size) = some 1)
    (cs : Array Value) (k : Nat) (v : Value) (hk : k < n) (hv : cs[k]? = some v) (kd : IntKind) (w : World) : (Instr.index T (.agg cs) (.int kd k)).run P w = .ok v w := by
  cases hq : P.info? e with
  | none => simp [hq] at hc
  | some i =>
    have hz : i.size = 1 := by simpa [hq] using hc
    have hagg : ∀ w : World, (isAgg e).run P w = .ok false w := by
      intro w
      unfold isAgg
      rw [Sem.run_bind, run_underlying he w]
      cases d <;> simp_all
    simp [Instr.index, asIntOf, Sem.run_bind, run_underlying hT, sizeOf, typeInfo, hq, hz, part, hagg, hv]
    intro hnk
    omega
theorem results_cell_tmp {fn : Func} {p q : Tmp} {ty : TypeId} (h : fn.results = #[.cell p ty, .tmp q]) (tmps : Array Value) (w : World) (g : Nat) (t : TypeId) (cs : Array Value) (fr : Nat × Nat) (d : TypeDesc)
    (hp : tmps.getD p undef = .pointer (some ⟨g, 0, none⟩)) (hg : w.heap[g]? = some (.cells cs t fr))
    (hu : P.underlying ty = some d) (hd : (match d with | .struct _ | .array _ _ => true | _ => false) = true) (hi : (P.info? ty).map (·.size) = some cs.size) :
    (results fn tmps).run P w = .ok (.tuple #[.agg cs, tmps.getD q undef]) w := by
  have hp' : tmps[p]?.getD undef = .pointer (some ⟨g, 0, none⟩) := by simpa using hp
  simp [results, h, hp', asAddr, run_loadVar_row w g t ty cs fr d hg hu hd hi]
end

/-- a list of numbers as an array's cells -/
def arr (D : List Int) : Array Value := (ints D).toArray
theorem arr_size (D : List Int) : (arr D).size = D.length := by simp [arr]
theorem arr_get (D : List Int) (k : Nat) (h : k < D.length) : (arr D)[k]? = some (.int .i64 D[k]) := by simp [arr, h]
theorem arr_one (D : List Int) : ∀ v ∈ (arr D).toList, v.oneCell' = true := by
  intro v hv
  simp [arr] at hv
  obtain ⟨x, -, rfl⟩ := hv
  rfl
theorem arr_set (D : List Int) (k : Nat) (x : Int) : (arr D).setIfInBounds k (.int .i64 x) = arr (D.set k x) := by
  simp [arr, ints, List.map_set]
end Go.Proofs.Ytgkghebjaedjmaa
namespace Go.Proofs.Ytgkghebjaedjmaa
open Go.RowKit
theorem Blk.own {w : World} {g lo : Nat} {e : TypeId} {vs : List Value} (h : Blk w g e vs.toArray) (hlo : lo ≤ g) (hm : vs.length ≤ maxLen) : Own w lo w.heap.size e (.slice (some ⟨g, 0, none⟩) vs.length vs.length) vs :=
  ⟨⟨by simp, .inr ⟨g, vs.length, vs.toArray, rfl, hlo, h, Nat.le_refl _, hm, by simp, by simp⟩⟩, fun q hq => by have := h.lt; simp [Value.ownBlock] at hq; omega, Nat.le_refl _⟩

/-- make([]int, n): a block of n zeros: an equation for every world -/
theorem run_make_ints {P : Program} (t e : TypeId) (i : TypeInfo) (h1 : P.underlying t = some (.slice e)) (h2 : P.info? e = some i) (h3 : i.zero = some (.int .i64 0)) (h4 : i.size = 1) (h5 : i.bytes = 8)
    (n : Nat) (hn : n ≤ 4194304) (w : World) :
    (Instr.makeSlice t (.int .i64 n) (.int .i64 n)).run P w = .ok (.slice (some ⟨w.heap.size, 0, none⟩) n n) (w.alloc (.cells (arr (List.replicate n 0)) e)) := by
  have hrun := run_make (P := P) w t e i (.int .i64 0) h1 h2 h3 .i64 .i64 n n (by omega) (by omega) (by rw [h5]; omega) (by omega)
  rw [h4] at hrun
  simp only [Int.toNat_natCast, Nat.mul_one] at hrun
  rw [hrun]
  congr 3
  apply Array.toList_inj.1
  simp [Value.cells, toList_madeCells_one, arr]
end Go.Proofs.Ytgkghebjaedjmaa
namespace Go.Proofs.Ytgkghebjaedjmaa
open Go.RowKit NP
set_option maxRecDepth 8000
set_option linter.unusedVariables false
theorem T_info35 : (Try.prog.info? 60).map (·.size) = some 16 := by kernel_rfl

theorem diagramOf_any (a : Option Addr) (c B : Nat) (L : List Int) (w : World) (h : Rd w B a (ints L)) (hB : B ≤ w.heap.size) (hl : L.length ≤ 4611686018427387904) :
    Calls Try.prog 78 #[.slice a L.length c] w fun e w' => e = .returned (.tuple #[.agg (arr (dg L)), .bool (valid L)]) ∧ Below w.heap.size w w' := by
  go_enter Try.func78, Try.ntmps78
  go_wp2
  go_loopw [5, 10] (fun l i wr => ∃ k : Nat, k ≤ L.length ∧ i = .int .i64 k ∧ l = .int .i64 (16 - sumL (L.take k)) ∧ valid (L.take k) = true ∧ Below w.heap.size w wr ∧
    Blk wr w.heap.size 60 (arr (List.replicate 16 0)) ∧ Blk wr (w.heap.size + 1) 60 (arr (pad (L.take k)))) (fun _ i _ => L.length - (intOf i).toNat)
  case atStart =>
    refine ⟨0, Nat.zero_le _, rfl, rfl, rfl, ?_, ?_, ?_⟩
    · exact ((Below.refl _ _).alloc (Nat.le_refl _) _).alloc (by simp) _
    · exact (Blk.new w _ _).alloc _
    · have e := Blk.new (w.alloc (.cells (arr (List.replicate 16 0)) 60)) 60 (arr (pad (L.take 0)))
      rw [World.size_alloc] at e
      exact e
  case round =>
    obtain ⟨k, hk, rfl, rfl, hv, hbel, hb2, hb4⟩ := hrel
    have hbd := valid_bd hv
    by_cases hlt : k < L.length
    · have hR := (h.more hB).below hbel
      obtain ⟨b, o, rfl, hbB, hc⟩ := hR.at_ hlt
      have HN := Lib.hid (valid_stop hlt hv)
      have HY := Lib.hid (valid_next hlt hv)
      have HV := Lib.hid hv
      clear hv
      by_cases hok : 1 ≤ L[k] ∧ L[k] ≤ 16 - sumL (L.take k) ∧ (0 < k → L[k] ≤ L[k - 1]'(by omega))
      · have hvt := Lib.hid (HY.out hok.1 hok.2.1 hok.2.2)
        obtain ⟨h1, h2, h3⟩ := hok
        clear HN HY
        have hk16 : k < 16 := by
          have := (valid_bd hvt.out).2.2.2
          rw [List.length_take_of_le (by omega)] at this
          omega
        have hst := sumL_take_succ L k hlt
        have HST := Lib.hid hst
        clear hst
        have hcz : wr.cell? ⟨w.heap.size + 1, k, none⟩ = some ((arr (pad (L.take k)))[k]?.getD undef) := by
          rw [hb4.cell k]
          have : k < (arr (pad (L.take k))).size := by rw [arr_size, pad_len (by simp; omega)]; omega
          simp [this]
        have hfz : wr.frozen? ⟨w.heap.size + 1, k, none⟩ = false := hb4.free k
        have hpad : (arr (pad (L.take k))).setIfInBounds k (.int .i64 L[k]) = arr (pad (L.take (k + 1))) := by
          rw [arr_set, pad_set hlt hk16]
        have HPAD := Lib.hid hpad
        clear hpad
        have d1 : decide (L[k] < 1) = false := by simp; omega
        have d2 : decide (16 - sumL (L.take k) < L[k]) = false := by simp; omega
        by_cases h0 : k = 0
        · subst h0
          have hc' : wr.cell? ⟨b, o, none⟩ = some (.int .i64 L[0]) := hc
          clear h3
          have hz : sumL ([] : List Int) = 0 := rfl
          go_wp2_with fail
          go_roundw
          case rel =>
            refine ⟨0 + 1, by omega, by go_num, congrArg (Value.int .i64) (by rw [HST.out]; simp [sumL]), hvt.out, hbel.setCell (by simp) _, hb2.off (by simp) _, ?_⟩
            have e := hb4.set 0 (.int .i64 L[0])
            rw [HPAD.out] at e
            exact e
          case measure => simp [intOf]; omega
        · have hk1 : k - 1 < L.length := by omega
          obtain ⟨b', o', e', -, hc2⟩ := hR.at_ hk1
          injection e' with e'; injection e' with e1 e2; subst e1 e2
          have h4 : (0 : Int) < k := by omega
          have h7 : 1 ≤ k := by omega
          have h5 : 0 < k := by omega
          have h3' := h3 h5
          clear h3
          have d3 : decide (L[k - 1]'(by omega) < L[k]) = false := by simp; omega
          go_wp2_with fail
          go_roundw
          case rel =>
            refine ⟨k + 1, by omega, by go_num, by rw [HST.out]; go_num, hvt.out, hbel.setCell (by simp) _, hb2.off (by simp) _, ?_⟩
            have e := hb4.set k (.int .i64 L[k])
            rw [HPAD.out] at e
            exact e
          case measure => simp [intOf]; omega
      · have hvf := Lib.hid (HN.out hok)
        have hok' := Lib.hid hok
        clear HN HY hok
        by_cases h1 : 1 ≤ L[k]
        · by_cases h2 : L[k] ≤ 16 - sumL (L.take k)
          · have h0 : 0 < k := by
              rcases Nat.eq_zero_or_pos k with h0 | h0
              · exact absurd ⟨h1, h2, fun h => by omega⟩ hok'.out
              · exact h0
            have h3 : L[k - 1]'(by omega) < L[k] := by
              rcases Int.lt_or_le (L[k - 1]'(by omega)) L[k] with h3 | h3
              · exact h3
              · exact absurd ⟨h1, h2, fun _ => h3⟩ hok'.out
            have hk1 : k - 1 < L.length := by omega
            obtain ⟨b', o', e', -, hc2⟩ := hR.at_ hk1
            injection e' with e'; injection e' with e1 e2; subst e1 e2
            have h4 : (0 : Int) < k := by omega
            have h7 : 1 ≤ k := by omega
            have d1 : decide (L[k] < 1) = false := by simp; omega
            have d2 : decide (16 - sumL (L.take k) < L[k]) = false := by simp; omega
            have d3 : decide (L[k - 1]'(by omega) < L[k]) = true := by simp; omega
            go_wp2_with (refine wpList_store_row rfl 60 (.tmp 2) (.tmp 35) rfl w.heap.size rfl (arr (List.replicate 16 0)) rfl 60 _ hb2 T_info35 rfl (arr_one _) ?_)
            refine bodyPost_ret (results_cell_tmp rfl _ _ w.heap.size 60 (arr (List.replicate 16 0)) (0, 0) _ rfl hb2.row Try.underlying60 rfl T_info35) rfl ?_
            rw [hvf.out, dg_no hvf.out]
            exact ⟨rfl, below_setRow' hbel (Nat.le_refl _) _⟩
          · have h2' : 16 - sumL (L.take k) < L[k] := by omega
            clear h2
            have d1 : decide (L[k] < 1) = false := by simp; omega
            have d2 : decide (16 - sumL (L.take k) < L[k]) = true := by simp; omega
            go_wp2_with (refine wpList_store_row rfl 60 (.tmp 2) (.tmp 35) rfl w.heap.size rfl (arr (List.replicate 16 0)) rfl 60 _ hb2 T_info35 rfl (arr_one _) ?_)
            refine bodyPost_ret (results_cell_tmp rfl _ _ w.heap.size 60 (arr (List.replicate 16 0)) (0, 0) _ rfl hb2.row Try.underlying60 rfl T_info35) rfl ?_
            rw [hvf.out, dg_no hvf.out]
            exact ⟨rfl, below_setRow' hbel (Nat.le_refl _) _⟩
        · have h1' : L[k] < 1 := by omega
          clear h1
          go_wp2_with (refine wpList_store_row rfl 60 (.tmp 2) (.tmp 35) rfl w.heap.size rfl (arr (List.replicate 16 0)) rfl 60 _ hb2 T_info35 rfl (arr_one _) ?_)
          refine bodyPost_ret (results_cell_tmp rfl _ _ w.heap.size 60 (arr (List.replicate 16 0)) (0, 0) _ rfl hb2.row Try.underlying60 rfl T_info35) rfl ?_
          rw [hvf.out, dg_no hvf.out]
          exact ⟨rfl, below_setRow' hbel (Nat.le_refl _) _⟩
    · obtain rfl : k = L.length := by omega
      have ht : L.take L.length = L := List.take_of_length_le (Nat.le_refl _)
      rw [ht] at hv hb4
      have hvf := Lib.hid hv
      clear hv
      have hi16 : (Try.prog.info? 60).map (·.size) = some (arr (pad L)).size := by rw [arr_size, pad_len (valid_bd hvf.out).2.2.2]; exact T_info35
      have hsz : (arr (pad L)).size = (arr (List.replicate 16 0)).size := by rw [arr_size, arr_size, pad_len (valid_bd hvf.out).2.2.2]; rfl
      go_wp2_with (first | (refine wpList_load_row rfl 60 (.tmp 4) rfl (w.heap.size + 1) rfl 60 (arr (pad L)) (0, 0) _ hb4 Try.underlying60 rfl hi16 ?_) | (refine wpList_store_row rfl 60 (.tmp 2) (.tmp 43) rfl w.heap.size rfl (arr (pad L)) rfl 60 _ hb2 hi16 hsz (arr_one _) ?_))
      refine bodyPost_ret (results_cell_tmp rfl _ _ w.heap.size 60 (arr (pad L)) (0, 0) _ rfl hb2.row Try.underlying60 rfl hi16) rfl ?_
      rw [hvf.out, dg_yes hvf.out]
      exact ⟨rfl, below_setRow' hbel (Nat.le_refl _) _⟩
end Go.Proofs.Ytgkghebjaedjmaa
namespace Go.Proofs.Ytgkghebjaedjmaa
open Go.RowKit
set_option maxRecDepth 8000
set_option linter.unusedVariables false
set_option linter.unusedSimpArgs false
def limB (a b : Int) : Bool := decide (0 ≤ a ∧ a ≤ 4 ∧ 0 ≤ b ∧ b ≤ 4)
theorem isInLimits_any (a b : Int) (w : World) :
    Calls Try.prog 90 #[.agg #[.int .i64 a, .int .i64 b]] w fun e w' => e = .returned (.bool (limB a b)) ∧ Below w.heap.size w w' := by
  have hc : limB a b = true ∨ (limB a b = false ∧ (a < 0 ∨ (0 ≤ a ∧ 4 < a) ∨ (0 ≤ a ∧ a ≤ 4 ∧ b < 0) ∨ (0 ≤ a ∧ a ≤ 4 ∧ 0 ≤ b ∧ 4 < b))) := by
    unfold limB
    by_cases h : 0 ≤ a ∧ a ≤ 4 ∧ 0 ≤ b ∧ b ≤ 4
    · exact Or.inl (decide_eq_true h)
    · exact Or.inr ⟨decide_eq_false h, by omega⟩
  have fin := fun k => ((Below.refl w.heap.size w).alloc (Nat.le_refl _) k)
  rcases hc with h | ⟨h, h1 | ⟨h1, h2⟩ | ⟨h1, h2, h3⟩ | ⟨h1, h2, h3, h4⟩⟩
  · obtain ⟨h1, h2, h3, h4⟩ := of_decide_eq_true h
    rw [h]
    clear h
    have g1 : decide (0 ≤ a) = true := decide_eq_true h1
    have g2 : decide (a ≤ 4) = true := decide_eq_true h2
    have g3 : decide (0 ≤ b) = true := decide_eq_true h3
    have g4 : decide (b ≤ 4) = true := decide_eq_true h4
    go_enter Try.func90, Try.ntmps90
    go_wp2
    go_ret
    exact ⟨rfl, fin _⟩
  all_goals rw [h]; clear h
  · have g1 : decide (0 ≤ a) = false := decide_eq_false (by omega)
    go_enter Try.func90, Try.ntmps90
    go_wp2
    go_ret
    exact ⟨rfl, fin _⟩
  · have g1 : decide (0 ≤ a) = true := decide_eq_true h1
    have g2 : decide (a ≤ 4) = false := decide_eq_false (by omega)
    go_enter Try.func90, Try.ntmps90
    go_wp2
    go_ret
    exact ⟨rfl, fin _⟩
  · have g1 : decide (0 ≤ a) = true := decide_eq_true h1
    have g2 : decide (a ≤ 4) = true := decide_eq_true h2
    have g3 : decide (0 ≤ b) = false := decide_eq_false (by omega)
    go_enter Try.func90, Try.ntmps90
    go_wp2
    go_ret
    exact ⟨rfl, fin _⟩
  · have g1 : decide (0 ≤ a) = true := decide_eq_true h1
    have g2 : decide (a ≤ 4) = true := decide_eq_true h2
    have g3 : decide (0 ≤ b) = true := decide_eq_true h3
    have g4 : decide (b ≤ 4) = false := decide_eq_false (by omega)
    go_enter Try.func90, Try.ntmps90
    go_wp2
    go_ret
    exact ⟨rfl, fin _⟩
end Go.Proofs.Ytgkghebjaedjmaa
namespace Go.Proofs.Ytgkghebjaedjmaa
open Go.RowKit NP
set_option maxRecDepth 8000
set_option linter.unusedVariables false
theorem T_int : (Try.prog.info? 3).map (fun i => (i.zero, i.size, i.bytes)) = some (some (.int .i64 0), 1, 8) := by kernel_rfl
theorem eqIntS_any (a b : Option Addr) (ca cb Ba Bb : Nat) (L M : List Int) (w : World) (h : Rd w Ba a (ints L)) (hm : Rd w Bb b (ints M)) (hl : L.length ≤ 4611686018427387904) (hl2 : M.length ≤ 4611686018427387904) :
    Calls Try.prog 37 #[.slice a L.length ca, .slice b M.length cb] w fun e w' => e = .returned (.bool (decide (L = M))) ∧ ∃ n, w' = w.drewN n := by
  by_cases hlen : L.length = M.length
  · have hne : ((L.length : Int) != (M.length : Int)) = false := by simp [hlen]
    have HL := Lib.hid hlen
    clear hlen
    go_enter Try.func37, Try.ntmps37
    go_wp2
    go_loopw [5] (fun i wr => ∃ k : Nat, k ≤ L.length ∧ i = .int .i64 k ∧ Dr w wr ∧ Hid (L.take k = M.take k)) (fun i _ => L.length - (intOf i).toNat)
    case atStart => exact ⟨0, Nat.zero_le _, rfl, Dr.refl _, Lib.hid rfl⟩
    case round =>
      obtain ⟨k, hk, rfl, hdr, HT⟩ := hrel
      by_cases hlt : k < L.length
      · have hlt2 : k < M.length := by have := HL.out; omega
        obtain ⟨b1, o1, rfl, -, hc1⟩ := (h.dr hdr).at_ hlt
        obtain ⟨b2, o2, rfl, -, hc2⟩ := (hm.dr hdr).at_ hlt2
        by_cases hx : L[k] = M[k]
        · have hx' : (L[k] != M[k]) = false := by simp [hx]
          have HX := Lib.hid hx
          clear hx
          go_wp2_with fail
          go_quiet (fail)
          go_wp2
          go_roundw
          case rel => exact ⟨k + 1, by omega, by go_num, hdr.drewN _, Lib.hid (by rw [List.take_succ_eq_append_getElem hlt, List.take_succ_eq_append_getElem hlt2, HT.out, HX.out])⟩
          case measure => simp [intOf]; omega
        · have hx' : (L[k] != M[k]) = true := by simp [hx]
          have HX := Lib.hid hx
          clear hx
          go_wp2_with fail
          go_quiet (fail)
          go_wp2
          go_ret
          exact ⟨ret_bool (by simp; intro e; apply HX.out; simp only [e]), hdr.drewN _⟩
      · obtain rfl : k = L.length := by omega
        go_wp2
        go_ret
        exact ⟨ret_bool (by simp; have := HT.out; rw [List.take_of_length_le (Nat.le_refl _), List.take_of_length_le (by have := HL.out; omega)] at this; exact this), hdr⟩
  · have hne : ((L.length : Int) != (M.length : Int)) = true := by simp; omega
    have HL := Lib.hid hlen
    clear hlen
    go_enter Try.func37, Try.ntmps37
    go_wp2
    go_ret
    exact ⟨ret_bool (by simp; intro e; exact HL.out (by rw [e])), Dr.refl _⟩
theorem equalInts_any (a b : Option Addr) (ca cb Ba Bb : Nat) (L M : List Int) (w : World) (h : Rd w Ba a (ints L)) (hm : Rd w Bb b (ints M)) (hl : L.length ≤ 4611686018427387904) (hl2 : M.length ≤ 4611686018427387904) :
    Calls Try.prog 52 #[.slice a L.length ca, .slice b M.length cb] w fun e w' => e = .returned (.bool (decide (L = M))) ∧ ∃ n, w' = w.drewN n := by
  by_cases hlen : L.length = M.length
  · have hne : ((L.length : Int) != (M.length : Int)) = false := by simp [hlen]
    have HL := Lib.hid hlen
    clear hlen
    go_enter Try.func52, Try.ntmps52
    go_wp2
    go_loopw [5] (fun i wr => ∃ k : Nat, k ≤ L.length ∧ i = .int .i64 k ∧ Dr w wr ∧ Hid (L.take k = M.take k)) (fun i _ => L.length - (intOf i).toNat)
    case atStart => exact ⟨0, Nat.zero_le _, rfl, Dr.refl _, Lib.hid rfl⟩
    case round =>
      obtain ⟨k, hk, rfl, hdr, HT⟩ := hrel
      by_cases hlt : k < L.length
      · have hlt2 : k < M.length := by have := HL.out; omega
        obtain ⟨b1, o1, rfl, -, hc1⟩ := (h.dr hdr).at_ hlt
        obtain ⟨b2, o2, rfl, -, hc2⟩ := (hm.dr hdr).at_ hlt2
        by_cases hx : L[k] = M[k]
        · have hx' : (L[k] != M[k]) = false := by simp [hx]
          have HX := Lib.hid hx
          clear hx
          go_wp2_with fail
          go_quiet (fail)
          go_wp2
          go_roundw
          case rel => exact ⟨k + 1, by omega, by go_num, hdr.drewN _, Lib.hid (by rw [List.take_succ_eq_append_getElem hlt, List.take_succ_eq_append_getElem hlt2, HT.out, HX.out])⟩
          case measure => simp [intOf]; omega
        · have hx' : (L[k] != M[k]) = true := by simp [hx]
          have HX := Lib.hid hx
          clear hx
          go_wp2_with fail
          go_quiet (fail)
          go_wp2
          go_ret
          exact ⟨ret_bool (by simp; intro e; apply HX.out; simp only [e]), hdr.drewN _⟩
      · obtain rfl : k = L.length := by omega
        go_wp2
        go_ret
        exact ⟨ret_bool (by simp; have := HT.out; rw [List.take_of_length_le (Nat.le_refl _), List.take_of_length_le (by have := HL.out; omega)] at this; exact this), hdr⟩
  · have hne : ((L.length : Int) != (M.length : Int)) = true := by simp; omega
    have HL := Lib.hid hlen
    clear hlen
    go_enter Try.func52, Try.ntmps52
    go_wp2
    go_ret
    exact ⟨ret_bool (by simp; intro e; exact HL.out (by rw [e])), Dr.refl _⟩

theorem fill_set {L : List Int} {k : Nat} (hk : k < L.length) : (ints (L.take k) ++ List.replicate (L.length - k) (Value.int .i64 0)).set k (.int .i64 L[k]) = ints (L.take (k + 1)) ++ List.replicate (L.length - (k + 1)) (Value.int .i64 0) := by
  have e1 : (ints (L.take k)).length = k := by simp; omega
  rw [show L.length - k = (L.length - (k + 1)) + 1 by omega, List.replicate_succ, List.set_append_right _ _ (by omega), e1, Nat.sub_self, List.set_cons_zero, List.take_succ_eq_append_getElem hk]
  simp only [ints, List.map_append, List.map_cons, List.map_nil, List.append_assoc, List.cons_append, List.nil_append]

theorem T_int' : ∃ i, Try.prog.info? 3 = some i ∧ i.zero = some (.int .i64 0) ∧ i.size = 1 ∧ i.bytes = 8 := info_parts T_int

theorem toIntS_any (a : Option Addr) (c B : Nat) (L : List Int) (w : World) (h : Rd w B a (ints L)) (hB : B ≤ w.heap.size) (hl : L.length ≤ 1048576) :
    Calls Try.prog 35 #[.slice a L.length c] w fun e w' => ∃ a', e = .returned (.slice a' L.length L.length) ∧ Own w' w.heap.size w'.heap.size 3 (.slice a' L.length L.length) (ints L) ∧ Below w.heap.size w w' := by
  obtain ⟨i0, hi, hz0, hz1, hz2⟩ := T_int'
  go_enter Try.func35, Try.ntmps35
  go_wp2_with (refine wpList_make_full _ rfl _ _ 30 rfl w.heap.size 3 i0 (.int .i64 0) 1 Try.underlying30 hi hz0 hz1 .i64 .i64 _ _ L.length rfl rfl rfl rfl (by rw [hz2]; omega) (by unfold maxLen; omega) (by simp) ?_; intro w1 hown1 hg1; have hb1 : Below w.heap.size w w1 := (Below.refl _ _).grown hg1 (Nat.le_refl _) (by simp); have ho1 : Own w1 w.heap.size w1.heap.size 3 (.slice (some ⟨w.heap.size, 0, none⟩) L.length L.length) (List.replicate L.length (Value.int .i64 0)) := ⟨by simpa [toList_madeCells_one, Value.cells] using hown1, fun g hg => (hown1.lt g hg).2, Nat.le_refl _⟩; clear hown1 hg1)
  go_loopw [4] (fun i wr => ∃ k : Nat, k ≤ L.length ∧ i = .int .i64 k ∧ Below w.heap.size w wr ∧ Own wr w.heap.size wr.heap.size 3 (.slice (some ⟨w.heap.size, 0, none⟩) L.length L.length) (ints (L.take k) ++ List.replicate (L.length - k) (Value.int .i64 0))) (fun i _ => L.length - (intOf i).toNat)
  case atStart => exact ⟨0, Nat.zero_le _, rfl, hb1, by simpa using ho1⟩
  case round =>
    obtain ⟨k, hk, rfl, hbr, hor⟩ := hrel
    clear hb1 ho1
    by_cases hlt : k < L.length
    · obtain ⟨b1, o1, rfl, -, hc1⟩ := ((h.more hB).below hbr).at_ hlt
      obtain ⟨g, u, e, hlo, hhi, hc2, hf2⟩ := hor.spot (k := k) (by simp; omega)
      obtain rfl : w.heap.size = g := by injection e with e; injection e
      clear e
      have HF := Lib.hid (fill_set hlt)
      have HO := Lib.hid hor
      clear hor
      go_wp2
      go_roundw
      case rel =>
        refine ⟨k + 1, by omega, by go_num, hbr.setCell (by simp) _, ?_⟩
        have e := HO.out.set k (.int .i64 L[k])
        rw [HF.out] at e
        exact ⟨e.row, fun g hg => by simpa [World.setCell] using e.lt g hg, Nat.le_refl _⟩
      case measure => simp [intOf]; omega
    · obtain rfl : k = L.length := by omega
      go_wp2
      go_ret
      exact ⟨_, rfl, by simpa using hor, hbr⟩

/-- the marks from m on -/
def marks (m : Int) (n : Nat) : List Int := (List.range n).map fun (j : Nat) => m + (j : Int)
theorem marks_len (m : Int) (n : Nat) : (marks m n).length = n := by simp [marks]
theorem marks_get (m : Int) (n j : Nat) (h : j < (marks m n).length) : (marks m n)[j] = m + (j : Int) := by simp [marks]
theorem mark_set {L : List Int} {m : Int} {k : Nat} (hk : k < L.length) : (ints (marks m k ++ L.drop k)).set k (.int .i64 (m + (k : Int))) = ints (marks m (k + 1) ++ L.drop (k + 1)) := by
  have e1 : (marks m k).length = k := marks_len m k
  rw [List.drop_eq_getElem_cons hk, ints, List.map_append, List.map_cons, List.set_append_right _ _ (by simp [e1]), List.length_map, e1, Nat.sub_self, List.set_cons_zero]
  simp [ints, marks, List.range_succ]

theorem markIntS_any (a : Option Addr) (c lo hi : Nat) (m : Int) (L : List Int) (w : World) (h : Own w lo hi 3 (.slice a L.length c) (ints L)) (hm : 0 ≤ m) (hm2 : m ≤ 1099511627776) (hl : L.length ≤ 1099511627776) :
    Calls Try.prog 46 #[.slice a L.length c, .int .i64 m] w fun e w' => e = .returned (.int .i64 (m + (L.length : Int))) ∧ Own w' lo hi 3 (.slice a L.length c) (ints (marks m L.length)) ∧ w.grownBy w' (Value.slice a L.length c).ownBlock := by
  go_enter Try.func46, Try.ntmps46
  go_wp2
  go_loopw [1, 5] (fun kk i wr => ∃ k : Nat, k ≤ L.length ∧ i = .int .i64 k ∧ kk = .int .i64 (m + (k : Int)) ∧ w.grownBy wr (Value.slice a L.length c).ownBlock ∧ Own wr lo hi 3 (.slice a L.length c) (ints (marks m k ++ L.drop k))) (fun _ i _ => L.length - (intOf i).toNat)
  case atStart => exact ⟨0, Nat.zero_le _, rfl, by simp, World.grownBy.refl _ _, by simpa [marks] using h⟩
  case round =>
    obtain ⟨k, hk, rfl, rfl, hbr, hor⟩ := hrel
    clear h
    by_cases hlt : k < L.length
    · obtain ⟨g, u, rfl, hlo, hhi, hc2, hf2⟩ := hor.spot (k := k) (by simp [marks_len]; omega)
      have HF := Lib.hid (mark_set (m := m) hlt)
      have HO := Lib.hid hor
      have HR := Lib.hid hbr
      clear hor hbr
      go_wp2
      go_roundw
      case rel =>
        have e := HO.out.set k (.int .i64 (m + (k : Int)))
        have hbr := HR.out
        rw [HF.out] at e
        refine ⟨k + 1, by omega, by go_num, by go_num, ?_, e⟩
        exact ⟨hbr.os, hbr.tape, hbr.output, by simpa [World.setCell] using hbr.size, fun q hq hne => (Below.heap_setCell wr _ _ q (by rintro rfl; exact hne (by simp [Value.ownBlock]))).trans (hbr.block q hq hne)⟩
      case measure => simp [intOf]; omega
    · obtain rfl : k = L.length := by omega
      go_wp2
      go_ret
      exact ⟨rfl, by simpa using hor, hbr⟩

theorem heldIntS_any (a : Option Addr) (c B n : Nat) (m : Int) (w : World) (h : Rd w B a (ints (marks m n))) (hm : 0 ≤ m) (hm2 : m ≤ 1099511627776) (hl : n ≤ 1099511627776) :
    Calls Try.prog 48 #[.slice a n c, .int .i64 m] w fun e w' => e = .returned (.int .i64 (m + (n : Int))) ∧ w = w' := by
  have hn : (marks m n).length = n := marks_len m n
  have HN := Lib.hid hn
  clear hn
  go_enter Try.func48, Try.ntmps48
  go_wp2
  go_loop [1, 5] (fun kk i => ∃ k : Nat, k ≤ n ∧ i = .int .i64 k ∧ kk = .int .i64 (m + (k : Int))) (fun _ i => n - (intOf i).toNat)
  case atStart => exact ⟨0, Nat.zero_le _, rfl, by simp⟩
  case round =>
    obtain ⟨k, hk, rfl, rfl⟩ := hrel
    by_cases hlt : k < n
    · obtain ⟨b1, o1, rfl, -, hc1⟩ := h.at_ (k := k) (by rw [HN.out]; exact hlt)
      rw [marks_get] at hc1
      go_wp2
      go_round
      case rel => exact ⟨k + 1, by omega, by go_num, by go_num⟩
      case measure => simp [intOf]; omega
    · obtain rfl : k = n := by omega
      go_wp2
      go_ret
      exact ⟨rfl, rfl⟩

theorem eqIntS_same (a b : Option Addr) (ca cb Ba Bb : Nat) (L : List Int) (w : World) (h : Rd w Ba a (ints L)) (hm : Rd w Bb b (ints L)) (hl : L.length ≤ 4611686018427387904) :
    Calls Try.prog 37 #[.slice a L.length ca, .slice b L.length cb] w fun e w' => e = .returned (.bool true) ∧ Dr w w' :=
  (eqIntS_any a b ca cb Ba Bb L L w h hm hl hl).mono fun e w' ⟨h1, h2⟩ => ⟨by rw [h1]; simp, h2⟩
theorem equalInts_same (a b : Option Addr) (ca cb Ba Bb : Nat) (L : List Int) (w : World) (h : Rd w Ba a (ints L)) (hm : Rd w Bb b (ints L)) (hl : L.length ≤ 4611686018427387904) :
    Calls Try.prog 52 #[.slice a L.length ca, .slice b L.length cb] w fun e w' => e = .returned (.bool true) ∧ Dr w w' :=
  (equalInts_any a b ca cb Ba Bb L L w h hm hl hl).mono fun e w' ⟨h1, h2⟩ => ⟨by rw [h1]; simp, h2⟩

theorem total_any (a : Option Addr) (c B : Nat) (L : List Int) (w : World) (h : Rd w B a (ints L)) (hs : sumFits L) (hl : L.length ≤ 4611686018427387904) :
    Calls Try.prog 17 #[.slice a L.length c] w fun e w' => e = .returned (.int .i64 (sumL L)) ∧ w = w' := by
  go_enter Try.func17, Try.ntmps17
  go_wp2
  go_loop [3, 4] (fun s i => ∃ k : Nat, k ≤ L.length ∧ i = .int .i64 k ∧ s = .int .i64 (sumL (L.take k))) (fun _ i => L.length - (intOf i).toNat)
  case atStart => exact ⟨0, Nat.zero_le _, rfl, rfl⟩
  case round =>
    obtain ⟨k, hk, rfl, rfl⟩ := hrel
    by_cases hlt : k < L.length
    · obtain ⟨b, o, rfl, _, hc⟩ := h.at_ hlt
      have h1 := hs k hk
      have h2 := hs.next hlt
      have H3 := Lib.hid (sumL_take_succ L k hlt)
      go_wp2
      go_round
      case rel => exact ⟨k + 1, by omega, by go_num, by rw [H3.out]⟩
      case measure => simp [intOf]; omega
    · go_wp2
      go_ret
      exact ⟨ret_i64 (by rw [List.take_of_length_le (by omega)]), rfl⟩
end Go.Proofs.Ytgkghebjaedjmaa
namespace Go.Proofs.Ytgkghebjaedjmaa
open Go.RowKit NP
set_option maxRecDepth 8000
set_option linter.unusedVariables false

def cntD (D : List Int) : Nat := ff (fun k => decide (0 < D.getD k 0)) 16
def durD (D : List Int) : Nat := ff (fun (k : Nat) => decide ((k : Int) < D.getD k 0)) 16
theorem box_cell (w : World) (D : List Int) (k : Nat) (hk : k < D.length) : (w.alloc (.cells (arr D) 60)).cell? ⟨w.heap.size, k, none⟩ = some (.int .i64 D[k]) := by
  rw [(Blk.new w _ _).cell k, arr_get D k hk]

theorem count_any (D : List Int) (hD : D.length = 16) (w : World) :
    Calls Try.prog 75 #[.agg (arr D)] w fun e w' => e = .returned (.int .i64 (cntD D)) ∧ Below w.heap.size w w' := by
  have HD := Lib.hid hD
  have hd16 : 16 ≤ D.length := by omega
  clear hD
  go_enter Try.func75, Try.ntmps75
  go_wp2
  go_loop [3] (fun i => ∃ k : Nat, k ≤ 16 ∧ i = .int .i64 k ∧ Hid (∀ j, j < k → (fun k => decide (0 < D.getD k 0)) j = true)) (fun i => 16 - (intOf i).toNat)
  case atStart => exact ⟨0, Nat.zero_le _, rfl, Lib.hid fun j hj => by omega⟩
  case round =>
    obtain ⟨k, hk, rfl, HP⟩ := hrel
    by_cases hlt : k < 16
    · have hkD : k < D.length := by omega
      have hc := box_cell w D k hkD
      by_cases hx : 0 < D[k]
      · go_wp2
        go_round
        case rel => exact ⟨k + 1, by omega, by go_num, Lib.hid fun j hj => by
          rcases Nat.lt_or_ge j k with h | h
          · exact HP.out j h
          · obtain rfl : j = k := by omega
            simp [List.getD, hkD]; omega⟩
        case measure => simp [intOf]; omega
      · have hx' : D[k] ≤ 0 := by omega
        clear hx
        go_wp2
        go_ret
        exact ⟨ret_i64 (by unfold cntD; rw [ff_eq HP.out hk (.inr (by simp [List.getD, hkD]; omega))]), (Below.refl _ _).alloc (Nat.le_refl _) _⟩
    · obtain rfl : k = 16 := by omega
      go_wp2
      go_ret
      exact ⟨ret_i64 (by unfold cntD; rw [ff_eq HP.out hk (.inl rfl)]; rfl), (Below.refl _ _).alloc (Nat.le_refl _) _⟩

theorem T_index (D : List Int) (k : Nat) (hk : k < D.length) (h16 : k < 16) (w : World) : (Instr.index 60 (.agg (arr D)) (.int .i64 k)).run Try.prog w = .ok (.int .i64 D[k]) w :=
  run_index_row 60 3 _ 16 Try.underlying60 Try.underlying3 rfl (by kernel_rfl) (arr D) k _ h16 (arr_get D k hk) .i64 w

theorem dsum_any (D : List Int) (hD : D.length = 16) (hs : sumFits D) (w : World) :
    Calls Try.prog 88 #[.agg (arr D)] w fun e w' => e = .returned (.int .i64 (sumL D)) ∧ Below w.heap.size w w' := by
  have HD := Lib.hid hD
  have hd16 : 16 ≤ D.length := by omega
  have hi16 : (Try.prog.info? 60).map (·.size) = some (arr D).size := by rw [arr_size, hD]; exact T_info35
  clear hD
  have hb := Blk.new w 60 (arr D)
  go_enter Try.func88, Try.ntmps88
  go_wp2_with (refine wpList_load_row rfl 60 (.tmp 1) rfl w.heap.size rfl 60 (arr D) (0, 0) _ hb Try.underlying60 rfl hi16 ?_)
  go_loop [3, 7] (fun s i => ∃ k : Nat, k ≤ 16 ∧ i = .int .i64 k ∧ s = .int .i64 (sumL (D.take k))) (fun _ i => 16 - (intOf i).toNat)
  case atStart => exact ⟨0, Nat.zero_le _, rfl, rfl⟩
  case round =>
    obtain ⟨k, hk, rfl, rfl⟩ := hrel
    by_cases hlt : k < 16
    · have hkD : k < D.length := by omega
      have hc := T_index D k hkD hlt
      have h1 := hs k (by omega)
      have h2 := hs.next hkD
      have H3 := Lib.hid (sumL_take_succ D k hkD)
      go_wp2
      go_round
      case rel => exact ⟨k + 1, by omega, by go_num, by rw [H3.out]⟩
      case measure => simp [intOf]; omega
    · obtain rfl : k = 16 := by omega
      go_wp2
      go_ret
      exact ⟨ret_i64 (by rw [List.take_of_length_le (by rw [HD.out]; omega)]), (Below.refl _ _).alloc (Nat.le_refl _) _⟩

theorem splice_all {α : Type} (Z X : List α) (h : Z.length = X.length) : splice Z 0 X = X := by simp [splice, ← h]
theorem pad_cells {w : World} {g : Nat} {t : TypeId} {M : List Int} (hlen : M.length ≤ 16) (hb : Blk w g t (arr (pad M))) : ∀ j v, (ints M)[j]? = some v → w.cell? ((⟨g, 0, none⟩ : Addr).add j) = some v := by
  intro j v hv
  rw [Addr.add_lit, Nat.zero_add, hb.cell j]
  have hj : j < M.length := by
    have := (List.getElem?_eq_some_iff.1 hv).1
    simpa using this
  rw [arr_get (pad M) j (by rw [pad_len hlen]; omega), pad_get hlen hj]
  simpa [hj] using hv

theorem list_any (M : List Int) (hM : valid M = true) (w : World) :
    Calls Try.prog 76 #[.agg (arr (pad M))] w fun e w' => ∃ a', e = .returned (.slice a' M.length M.length) ∧ Own w' w.heap.size w'.heap.size 3 (.slice a' M.length M.length) (ints M) ∧ Below w.heap.size w w' := by
  have hbd := valid_bd hM
  have hlen : M.length ≤ 16 := hbd.2.2.2
  have hff : cntD (pad M) = M.length := by
    unfold cntD
    refine ff_eq (fun j hj => ?_) hlen ?_
    · have h1 := preS_of_valid hM j hj hj
      rw [List.getD_eq_getElem?_getD, List.getElem?_eq_getElem (by rw [pad_len hlen]; omega), Option.getD_some, pad_get hlen hj]
      simp; omega
    · rcases Nat.lt_or_ge M.length 16 with h | h
      · right
        rw [List.getD_eq_getElem?_getD, List.getElem?_eq_getElem (by rw [pad_len hlen]; omega), Option.getD_some, pad_get0 hlen (Nat.le_refl _) h]
        simp
      · left; omega
  have HF := Lib.hid hff
  clear hff
  have hi16 : (Try.prog.info? 60).map (·.size) = some (arr (pad M)).size := by rw [arr_size, pad_len hlen]; exact T_info35
  obtain ⟨i0, hi, hz0, hz1, hz2⟩ := T_int'
  have hmk := run_make_ints 30 3 i0 Try.underlying30 hi hz0 hz1 hz2 M.length (by omega)
  have hb := Blk.new w 60 (arr (pad M))
  have HM := Lib.hid hM
  clear hM
  go_enter Try.func76, Try.ntmps76
  go_wp2_with (first
    | (refine wpList_load_row rfl 60 (.tmp 1) rfl w.heap.size rfl 60 (arr (pad M)) (0, 0) _ hb Try.underlying60 rfl hi16 ?_)
    | (go_at_call 75; refine (count_any (pad M) (pad_len hlen) _).mono ?_; rintro e w1 ⟨rfl, hb1⟩; rw [HF.out]; have hbk := hb.below hb1 (by simp))
    | ((with_reducible show wpList _ _ _ (Oper.mk _ (Op.call (Call.mk (Callee.builtin Builtin.copy) _ _)) _ _ _ _ :: _) _ _); go_loud (refine wpList_copy_splice rfl (.tmp 7) (.tmp 8) 30 30 rfl 3 Try.underlying30 (by rw [hi]; simp [hz1]) (some ⟨w1.heap.size, 0, none⟩) (some ⟨w.heap.size, 0, none⟩) M.length M.length 16 16 rfl rfl w1.heap.size 0 (ints (List.replicate M.length 0)) 3 (heap_alloc_new w1 _) (ints M) (by rw [show Nat.min 16 M.length = M.length from Nat.min_eq_right hlen]; simp) (fun _ => ⟨rfl, _, rfl, pad_cells hlen (hbk.alloc _)⟩) (by simp) (ints_one M) w.heap.size w ((((Below.refl _ _).alloc (Nat.le_refl _) _).trans (hb1.mono (by simp))).alloc (by have := hb1.size; simp at this; omega) _) (by have := hb1.size; simp at this; omega) ?_); intro w2 hg2 hb2))
  go_ret
  have hg3 : Blk w2 w1.heap.size 3 (ints M).toArray := by
    have := hg2.out
    rw [splice_all _ _ (by simp)] at this
    exact this
  have ho := hg3.own (lo := w.heap.size) (by have := hb1.size; simp at this; omega) (by simp [maxLen]; omega)
  simp only [ints, List.length_map] at ho
  exact ⟨_, rfl, ho, hb2⟩

/-- what has been counted when k rows are done, and j cells of the next -/
def acc (D : List Int) (k j : Nat) : List Int := (List.range 16).map fun (q : Nat) => cnt ((q : Int) + 1) (D.take k) + (if q < j then 1 else 0)
theorem acc_len (D : List Int) (k j : Nat) : (acc D k j).length = 16 := by simp [acc]
theorem acc_get (D : List Int) (k j : Nat) (h : j < 16) : (acc D k j)[j]'(by rw [acc_len]; exact h) = cnt ((j : Int) + 1) (D.take k) := by simp [acc]
theorem acc_set (D : List Int) (k j : Nat) (_h : j < 16) : (acc D k j).set j (cnt ((j : Int) + 1) (D.take k) + 1) = acc D k (j + 1) := by
  apply List.ext_getElem
  · simp [acc]
  · intro q h1 h2
    simp only [acc, List.length_set, List.length_map, List.length_range] at h1
    by_cases hq : j = q
    · subst hq
      simp [acc]
    · rw [List.getElem_set_ne hq]
      simp only [acc, List.getElem_map, List.getElem_range]
      by_cases h3 : q < j
      · rw [if_pos h3, if_pos (by omega)]
      · rw [if_neg h3, if_neg (by omega)]
theorem acc_next (D : List Int) (k : Nat) (hk : k < D.length) (h0 : 0 ≤ D[k]) (j : Nat) (hj : (j : Int) = D[k]) : acc D k j = acc D (k + 1) 0 := by
  apply List.map_congr_left
  intro q _
  rw [cnt_take_succ _ D k hk]
  by_cases h3 : q < j
  · rw [if_pos h3, if_pos (by omega)]; simp
  · rw [if_neg h3, if_neg (by omega)]; simp
theorem acc_zero (D : List Int) : acc D 0 0 = List.replicate 16 0 := by
  unfold acc
  simp [cnt]
  rfl
theorem acc_end (D : List Int) (hD : D.length = 16) : acc D 16 0 = (List.range 16).map fun (j : Nat) => cnt ((j : Int) + 1) D := by
  unfold acc
  rw [List.take_of_length_le (by omega)]
  simp

end Go.Proofs.Ytgkghebjaedjmaa
