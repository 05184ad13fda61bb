/-
  Plain mathematics: arms and legs of the parts that were made of them. Mathematics: kinds of parts; stairs, hooks of own conjugates, Franklin's map. Plain mathematics: marked parts put together of two. Walks: corners of the model and of the program. A row loaded under a guard that holds. Arrays of arrays: sixteen rows of sixteen numbers as one row of cells. Walks of the program: marked parts taken into a marked diagram.
-/
import Derived.Test.YtbbbfaollcklkaaZp1
import Derived.Test.YtbbbfaollcklkaaZp2
import Derived.Test.YtbbbfaollcklkaaZp3
namespace Go.Proofs.Ytbbbfaollcklkaa
namespace NP
set_option linter.unusedVariables false
theorem nb_ge {q : Nat → Bool} {m : Nat} (n : Nat) (hm : m ≤ n) (h : ∀ i, i < m → q i = true) : m ≤ nb q n := by
  induction n with
  | zero => omega
  | succ n ih =>
    simp only [nb]
    rcases Nat.lt_or_ge n m with h1 | h1
    · have e := nb_all (q := q) n fun i hi => h i (by omega)
      rw [e, if_pos (h n h1)]; omega
    · have := ih h1
      omega
theorem nb_few {q : Nat → Bool} {m : Nat} (n : Nat) (h : ∀ i, i < n → q i = true → i < m) : nb q n ≤ m := by
  have key : nb q n ≤ nb (fun i => decide (i < m)) n := nb_mono n fun i hi hq => decide_eq_true (h i hi hq)
  have e : nb (fun i => decide (i < m)) n = min n m := nb_to n fun i _ => by simp
  omega
theorem pof_dur {A B : List Int} (h : pofOk A B = true) : durS (pof A B) = A.length := by
  have hp := pofOk_pre h
  have hN := pofN_ge hp
  refine durS_unique (fun j hj => ?_) ?_
  · rw [pof_getD, if_pos (by omega), pofG, if_pos hj]
    have := (dnB_iff 16 A).1 hp.1 j hj
    omega
  · rw [pof_getD]
    split
    · rw [pofG, if_neg (by omega)]
      have := leg_le B A.length
      have := hp.2.2
      omega
    · omega
theorem froA_pof {A B : List Int} (h : pofOk A B = true) : froA (pof A B) = A := by
  have hp := pofOk_pre h
  have hN := pofN_ge hp
  unfold froA
  rw [pof_dur h]
  apply List.ext_getElem
  · rw [armsTo_len]
  · intro j h1 h2
    rw [← getD_lt h1, ← getD_lt h2, armsTo_getD _ _ _ h2, pof_getD, if_pos (by omega), pofG, if_pos h2]
    omega
theorem cnt_pof {A B : List Int} (h : pofOk A B = true) {i : Nat} (hi : i < A.length) : cnt ((i : Int) + 1) (pof A B) = B.getD i 0 + i + 1 := by
  have hp := pofOk_pre h
  have hN := pofN_ge hp
  have hv := valid_pof h
  have hl := hp.2.2
  have hb := (dnB_iff 16 B).1 hp.2.1 i (by omega)
  have hlow := dn_low hp.2.1 i (by omega)
  have hgap := dn_gap hp.2.1 i 0 (by omega) (by omega)
  have hb0 := (dnB_iff 16 B).1 hp.2.1 0 (by omega)
  have hNe : (pofN A B : Int) = B.getD 0 0 + 1 := by unfold pofN; rw [if_neg (by omega)]; omega
  obtain ⟨m, hm⟩ : ∃ m : Nat, (m : Int) = B.getD i 0 + i + 1 := ⟨(B.getD i 0 + i + 1).toNat, by omega⟩
  have hmN : m ≤ pofN A B := by omega
  have hlen := pof_len A B
  have lo : (m : Int) ≤ cnt ((i : Int) + 1) (pof A B) := by
    have h1 : m - 1 < (pof A B).length := by omega
    have h2 := (cnt_ge_iff hv h1 ((i : Int) + 1)).2 (by
      rw [← getD_lt h1, pof_getD, if_pos (by omega), pofG]
      split
      · have := dn_low hp.1 (m - 1) (by omega)
        omega
      · have : i + 1 ≤ leg B (m - 1) := nb_ge _ (by omega) fun i' hi' => decide_eq_true (by
          have := dn_gap hp.2.1 i i' (by omega) (by omega)
          omega)
        omega)
    omega
  have hi' : cnt ((i : Int) + 1) (pof A B) ≤ m := by
    rcases Nat.lt_or_ge m (pofN A B) with h1 | h1
    · have h2 : m < (pof A B).length := by omega
      have h3 := cnt_ge_iff hv h2 ((i : Int) + 1)
      have h4 : ¬ ((i : Int) + 1 ≤ (pof A B)[m]) := by
        rw [← getD_lt h2, pof_getD, if_pos h1, pofG, if_neg (by omega)]
        have : leg B m ≤ i := nb_few _ fun i' hi' hq => by
          have hq' := of_decide_eq_true hq
          rcases Nat.lt_or_ge i' i with h5 | h5
          · exact h5
          · have := dn_gap hp.2.1 i' i h5 hi'
            omega
        omega
      have : ¬ ((m : Int) + 1 ≤ cnt ((i : Int) + 1) (pof A B)) := fun hc => h4 (h3.1 hc)
      omega
    · have := (cnt_bd ((i : Int) + 1) (pof A B)).2
      omega
  omega
theorem froB_pof {A B : List Int} (h : pofOk A B = true) : froB (pof A B) = B := by
  have hp := pofOk_pre h
  unfold froB
  rw [pof_dur h]
  apply List.ext_getElem
  · rw [armsTo_len]; exact hp.2.2
  · intro j h1 h2
    have hj : j < A.length := by rw [armsTo_len] at h1; exact h1
    rw [← getD_lt h1, ← getD_lt h2, armsTo_getD _ _ _ hj, conj_getD' (valid_pof h), cnt_pof h hj]
    omega
end NP
end Go.Proofs.Ytbbbfaollcklkaa
namespace Go.Proofs.Ytbbbfaollcklkaa
namespace NP
set_option linter.unusedVariables false
def allTo (p : Nat → Bool) (n : Nat) : Bool := (List.range n).all p
theorem allTo_iff (p : Nat → Bool) (n : Nat) : allTo p n = true ↔ ∀ j, j < n → p j = true := by simp [allTo]
theorem allTo_no {p : Nat → Bool} {n j : Nat} (hj : j < n) (h : p j = false) : allTo p n = false := by
  cases e : allTo p n with
  | false => rfl
  | true => rw [(allTo_iff p n).1 e j hj] at h; exact h
theorem allTo_yes {p : Nat → Bool} {n : Nat} (h : ∀ j, j < n → p j = true) : allTo p n = true := (allTo_iff p n).2 h

def kRem (m r : Int) (L : List Int) : Bool := allTo (fun j => L.getD j 0 % m == r || L.getD j 0 % m == m - r) L.length
def kFall (s t : Int) (L : List Int) : Bool := allTo (fun j => decide ((if L.getD j 0 % 3 = 0 then t else s) ≤ L.getD j 0 - L.getD (j + 1) 0)) (L.length - 1)
def kSelf (L : List Int) : Bool := decide (L = conj L)
def kNoOne (L : List Int) : Bool := allTo (fun j => decide (L.getD j 0 ≠ 1)) L.length
def kNone (m : Nat) (L : List Int) : Bool := allTo (fun j => decide (L.getD j 0 ≠ L.getD (j + (m - 1)) 0)) (L.length - (m - 1))

/-- a stair -/
def stairs (s : Nat) : List Int := (List.range s).map fun (i : Nat) => (s : Int) - (i : Int)
theorem stairs_len (s : Nat) : (stairs s).length = s := by simp [stairs]
theorem stairs_getD (s i : Nat) : (stairs s).getD i 0 = if i < s then (s : Int) - (i : Int) else 0 := by
  unfold stairs
  rw [List.getD_eq_getElem?_getD, List.getElem?_map]
  by_cases h : i < s
  · rw [List.getElem?_range h, if_pos h]; rfl
  · rw [List.getElem?_eq_none (by simp; omega), if_neg h]; rfl
theorem stairs_sum {s : Nat} (h : s ≤ 16) : sumL (stairs s) = (s : Int) * ((s : Int) + 1) / 2 := by
  have : ∀ s : Nat, s < 17 → sumL (stairs s) = (s : Int) * ((s : Int) + 1) / 2 := by decide +kernel
  exact this s (by omega)
theorem stairs_mul {s : Nat} (h : s ≤ 16) : 0 ≤ (s : Int) * ((s : Int) + 1) ∧ (s : Int) * ((s : Int) + 1) ≤ 272 := by
  have : ∀ s : Nat, s < 17 → 0 ≤ (s : Int) * ((s : Int) + 1) ∧ (s : Int) * ((s : Int) + 1) ≤ 272 := by decide +kernel
  exact this s (by omega)
theorem stairs_five {s : Nat} (h : s ≤ 16) (h2 : (s : Int) * ((s : Int) + 1) / 2 ≤ 16) : s ≤ 5 := by
  have : ∀ s : Nat, s < 17 → (s : Int) * ((s : Int) + 1) / 2 ≤ 16 → s ≤ 5 := by decide +kernel
  exact this s (by omega) h2
theorem stairs_valid {s : Nat} (h : s ≤ 5) : valid (stairs s) = true := by
  have : ∀ s : Nat, s < 6 → valid (stairs s) = true := by decide +kernel
  exact this s (by omega)
def stOk (P : List Int) (k : Int) : Bool := valid P && decide ((P.length : Int) ≤ k) && decide (k ≤ 16) && decide (sumL P + k * (k + 1) / 2 ≤ 16)
def stPut (P : List Int) (k : Int) : List Int := adp P (stairs k.toNat)
def stPutF (P : List Int) (k : Int) : List Int := if stOk P k then stPut P k else []
theorem stPutF_yes {P : List Int} {k : Int} (h : stOk P k = true) : stPutF P k = stPut P k := by simp [stPutF, h]
theorem stPutF_no {P : List Int} {k : Int} (h : stOk P k = false) : stPutF P k = [] := by simp [stPutF, h]
theorem stOk_iff (P : List Int) (k : Int) : stOk P k = true ↔ valid P = true ∧ (P.length : Int) ≤ k ∧ k ≤ 16 ∧ sumL P + k * (k + 1) / 2 ≤ 16 := by
  unfold stOk; simp only [Bool.and_eq_true, decide_eq_true_eq, and_assoc]
theorem st_put {P : List Int} {s : Nat} (h : stOk P s = true) : s ≤ 5 ∧ two P (stairs s) = true ∧ valid (stPut P s) = true ∧ stPut P s = adp P (stairs s) := by
  obtain ⟨hv, hl, h16, hs⟩ := (stOk_iff _ _).1 h
  have hb := valid_bd hv
  have h5 : s ≤ 5 := stairs_five (by omega) (by omega)
  have ht : two P (stairs s) = true := by
    unfold two
    rw [hv, stairs_valid h5, stairs_sum (by omega)]
    simp only [Bool.and_self, Bool.true_and, decide_eq_true_eq]
    exact hs
  have he : stPut P s = adp P (stairs s) := by unfold stPut; rw [Int.toNat_natCast]
  exact ⟨h5, ht, he ▸ valid_adp ht, he⟩
theorem stPutF_len (P : List Int) (k : Int) : (stPutF P k).length ≤ 16 := by
  unfold stPutF
  split
  · rename_i h
    have h1 := (stOk_iff _ _).1 h
    obtain ⟨s, rfl⟩ := Int.eq_ofNat_of_zero_le (show 0 ≤ k by omega)
    exact (valid_bd (st_put h).2.2.1).2.2.2
  · simp

/-- what is left on a stair -/
def stT (L : List Int) (k : Nat) : List Int := ((List.range k).filter fun (i : Nat) => decide (0 < L.getD i 0 - ((L.length : Int) - (i : Int)))).map fun (i : Nat) => L.getD i 0 - ((L.length : Int) - (i : Int))
theorem stT_succ (L : List Int) (k : Nat) : stT L (k + 1) = stT L k ++ if 0 < L.getD k 0 - ((L.length : Int) - (k : Int)) then [L.getD k 0 - ((L.length : Int) - (k : Int))] else [] := by
  unfold stT
  rw [List.range_succ, List.filter_append, List.map_append]
  obtain ⟨f, hf⟩ : ∃ f : Nat → Int, ∀ i, L.getD i 0 - ((L.length : Int) - (i : Int)) = f i := ⟨_, fun _ => rfl⟩
  simp only [hf]
  congr 1
  by_cases h : 0 < f k <;> simp [h]
theorem stT_len (L : List Int) (k : Nat) : (stT L k).length ≤ k := by
  unfold stT
  rw [List.length_map]
  exact Nat.le_trans (List.length_filter_le _ _) (by simp)
def stCut (L : List Int) : List Int := stT L L.length
def stArr (L : List Int) : List Int := (List.range 16).map fun (j : Nat) => if j < L.length then L.getD j 0 - ((L.length : Int) - (j : Int)) else 0
def dis (L : List Int) : Bool := valid L && kFall 1 1 L
theorem dis_iff (L : List Int) : dis L = true ↔ valid L = true ∧ kFall 1 1 L = true := by unfold dis; simp
def stCutF (L : List Int) : List Int := if dis L then stCut L else []
theorem stCutF_yes {L : List Int} (h : dis L = true) : stCutF L = stCut L := by simp [stCutF, h]
theorem stCutF_no {L : List Int} (h : dis L = false) : stCutF L = [] := by simp [stCutF, h]
def stN (L : List Int) : Int := if dis L then (L.length : Int) else 0
theorem stN_yes {L : List Int} (h : dis L = true) : stN L = (L.length : Int) := by simp [stN, h]
theorem stN_no {L : List Int} (h : dis L = false) : stN L = 0 := by simp [stN, h]
def stTab (N : List Nat) : Bool :=
  let L := N.map Int.ofNat
  !kFall 1 1 L || valid (stCut L) && decide (pad (stCut L) = stArr L) && stOk (stCut L) L.length && decide (stPut (stCut L) L.length = L) && decide (L.length ≤ 5)
set_option maxRecDepth 100000 in
theorem stTab_all : all16.all stTab = true := by decide +kernel
theorem st_facts {L : List Int} (h : dis L = true) : valid (stCut L) = true ∧ pad (stCut L) = stArr L ∧ stOk (stCut L) L.length = true ∧ stPut (stCut L) L.length = L ∧ L.length ≤ 5 := by
  obtain ⟨hv, hk⟩ := (dis_iff L).1 h
  obtain ⟨N, hN, rfl⟩ := of_all stTab_all hv
  simp only [stTab, Bool.or_eq_true, Bool.and_eq_true, decide_eq_true_eq, hk, Bool.not_true, Bool.false_eq_true, false_or] at hN
  obtain ⟨⟨⟨⟨h1, h2⟩, h3⟩, h4⟩, h5⟩ := hN
  exact ⟨h1, h2, h3, h4, h5⟩
theorem stCutF_len (L : List Int) : (stCutF L).length ≤ 16 := by
  unfold stCutF
  split
  · rename_i h; exact (valid_bd (st_facts h).1).2.2.2
  · simp
def stTab2 (N : List Nat) : Bool :=
  let P := N.map Int.ofNat
  (List.range 6).all fun s => !stOk P s || dis (stPut P s) && decide (stCut (stPut P s) = P) && decide ((stPut P s).length = s)
set_option maxRecDepth 100000 in
theorem stTab2_all : all16.all stTab2 = true := by decide +kernel
theorem st_back {P : List Int} {s : Nat} (h : stOk P s = true) : dis (stPut P s) = true ∧ stCut (stPut P s) = P ∧ (stPut P s).length = s := by
  obtain ⟨hv, -, -, -⟩ := (stOk_iff _ _).1 h
  have h5 := (st_put h).1
  obtain ⟨N, hN, rfl⟩ := of_all stTab2_all hv
  have hs := List.all_eq_true.1 hN s (by simp; omega)
  simp only [Bool.or_eq_true, Bool.and_eq_true, decide_eq_true_eq, h, Bool.not_true, Bool.false_eq_true, false_or] at hs
  exact ⟨hs.1.1, hs.1.2, hs.2⟩

/-- hooks of the diagonal of own conjugates -/
def h2o (L : List Int) : List Int := (froA L).map fun a => a + 1 + a
def slf (L : List Int) : Bool := valid L && kSelf L
theorem slf_iff (L : List Int) : slf L = true ↔ valid L = true ∧ kSelf L = true := by unfold slf; simp
def h2oF (L : List Int) : List Int := if slf L then h2o L else []
theorem h2oF_yes {L : List Int} (h : slf L = true) : h2oF L = h2o L := by simp [h2oF, h]
theorem h2oF_no {L : List Int} (h : slf L = false) : h2oF L = [] := by simp [h2oF, h]
def halves (P : List Int) : List Int := P.map fun x => x / 2
def o2h (P : List Int) : List Int := pof (halves P) (halves P)
def dod (L : List Int) : Bool := valid L && (kRem 2 1 L && kFall 1 1 L)
theorem dod_iff (L : List Int) : dod L = true ↔ valid L = true ∧ kRem 2 1 L = true ∧ kFall 1 1 L = true := by unfold dod; simp
def o2hF (L : List Int) : List Int := if dod L then o2h L else []
theorem o2hF_yes {L : List Int} (h : dod L = true) : o2hF L = o2h L := by simp [o2hF, h]
theorem o2hF_no {L : List Int} (h : dod L = false) : o2hF L = [] := by simp [o2hF, h]
def hoTab (N : List Nat) : Bool :=
  let L := N.map Int.ofNat
  (!kSelf L || dod (h2o L) && decide (o2h (h2o L) = L) && decide ((h2o L).length = durS L) && decide (sumL (h2o L) = sumL L)) &&
  (!(kRem 2 1 L && kFall 1 1 L) || pofOk (halves L) (halves L) && slf (o2h L) && decide (h2o (o2h L) = L))
set_option maxRecDepth 100000 in
theorem hoTab_all : all16.all hoTab = true := by decide +kernel
theorem h2o_facts {L : List Int} (h : slf L = true) : dod (h2o L) = true ∧ o2h (h2o L) = L ∧ (h2o L).length = durS L ∧ sumL (h2o L) = sumL L := by
  obtain ⟨hv, hk⟩ := (slf_iff L).1 h
  obtain ⟨N, hN, rfl⟩ := of_all hoTab_all hv
  simp only [hoTab, Bool.or_eq_true, Bool.and_eq_true, decide_eq_true_eq, hk, Bool.not_true, Bool.false_eq_true, false_or] at hN
  exact ⟨hN.1.1.1.1, hN.1.1.1.2, hN.1.1.2, hN.1.2⟩
theorem o2h_facts {L : List Int} (h : dod L = true) : pofOk (halves L) (halves L) = true ∧ slf (o2h L) = true ∧ h2o (o2h L) = L := by
  obtain ⟨hv, hk1, hk2⟩ := (dod_iff L).1 h
  obtain ⟨N, hN, rfl⟩ := of_all hoTab_all hv
  simp only [hoTab, Bool.or_eq_true, Bool.and_eq_true, decide_eq_true_eq, hk1, hk2, Bool.and_self, Bool.not_true, Bool.false_eq_true, false_or] at hN
  exact ⟨hN.2.1.1, hN.2.1.2, hN.2.2⟩
theorem h2oF_len (L : List Int) : (h2oF L).length ≤ 16 := by
  unfold h2oF
  split
  · rename_i h; exact (valid_bd ((dod_iff _).1 (h2o_facts h).1).1).2.2.2
  · simp
theorem o2hF_len (L : List Int) : (o2hF L).length ≤ 16 := by
  unfold o2hF
  split
  · rename_i h; exact (valid_bd ((slf_iff _).1 (o2h_facts h).2.1).1).2.2.2
  · simp

/-- Franklin's map -/
def slp (L : List Int) : Nat := ff (fun n => decide (L.getD n 0 = L.getD 0 0 - (n : Int))) L.length
def lastP (L : List Int) : Int := L.getD (L.length - 1) 0
def frA (L : List Int) : List Int := (List.range (L.length - 1)).map fun (j : Nat) => L.getD j 0 + if (j : Int) < lastP L then 1 else 0
def frB (L : List Int) : List Int := ((List.range L.length).map fun (j : Nat) => L.getD j 0 - if j < slp L then 1 else 0) ++ [(slp L : Int)]
def fr (L : List Int) : List Int := if lastP L ≤ (slp L : Int) then frA L else frB L
def mayS (L : List Int) : Bool := decide (0 < L.length) && (decide (slp L < L.length) || (decide (lastP L ≠ (L.length : Int)) && decide (lastP L ≠ (L.length : Int) + 1)))
def frOk (L : List Int) : Bool := valid L && (kFall 1 1 L && mayS L)
theorem frOk_iff (L : List Int) : frOk L = true ↔ valid L = true ∧ kFall 1 1 L = true ∧ mayS L = true := by unfold frOk; simp
def frF (L : List Int) : List Int := if frOk L then fr L else []
theorem frF_yes {L : List Int} (h : frOk L = true) : frF L = fr L := by simp [frF, h]
theorem frF_no {L : List Int} (h : frOk L = false) : frF L = [] := by simp [frF, h]
def frTab (N : List Nat) : Bool :=
  let L := N.map Int.ofNat
  !(kFall 1 1 L && mayS L) || frOk (fr L) && decide (fr (fr L) = L) && decide (sumL (fr L) = sumL L) && (decide ((fr L).length = L.length + 1) || decide ((fr L).length + 1 = L.length)) &&
   decide (slp L ≤ L.length) && decide (1 ≤ lastP L) && decide (L.length ≤ 5) && (!decide (lastP L ≤ (slp L : Int)) || decide (lastP L ≤ (L.length : Int) - 1))
set_option maxRecDepth 100000 in
theorem frTab_all : all16.all frTab = true := by decide +kernel
theorem fr_facts {L : List Int} (h : frOk L = true) : frOk (fr L) = true ∧ fr (fr L) = L ∧ sumL (fr L) = sumL L ∧ ((fr L).length = L.length + 1 ∨ (fr L).length + 1 = L.length) ∧ slp L ≤ L.length ∧ 1 ≤ lastP L ∧ L.length ≤ 5 ∧ (lastP L ≤ (slp L : Int) → lastP L ≤ (L.length : Int) - 1) := by
  obtain ⟨hv, hk1, hk2⟩ := (frOk_iff L).1 h
  obtain ⟨N, hN, rfl⟩ := of_all frTab_all hv
  simp only [frTab, Bool.or_eq_true, Bool.and_eq_true, decide_eq_true_eq, hk1, hk2, Bool.and_self, Bool.not_true, Bool.false_eq_true, false_or] at hN
  obtain ⟨⟨⟨⟨⟨⟨⟨h1, h2⟩, h3⟩, h4⟩, h5⟩, h6⟩, h7⟩, h8⟩ := hN
  exact ⟨h1, h2, h3, h4, h5, h6, h7, fun hc => by simpa [hc] using h8⟩
theorem frF_len (L : List Int) : (frF L).length ≤ 16 := by
  unfold frF
  split
  · rename_i h; exact (valid_bd ((frOk_iff _).1 (fr_facts h).1).1).2.2.2
  · simp
end NP
end Go.Proofs.Ytbbbfaollcklkaa
namespace Go.Proofs.Ytbbbfaollcklkaa
namespace NP
set_option linter.unusedVariables false
def pmOk (A B : List Int) : Bool := two A B && kFall 1 1 A
def pmT (A B : List Int) : List Bool := mkOf (uni A B) (fun i => hasI A ((uni A B).getD i 0))
def pmL (A B : List Int) : List Int := if pmOk A B then uni A B else []
def pmB (A B : List Int) : List Bool := if pmOk A B then pmT A B else []
theorem pm_yes {A B : List Int} (h : pmOk A B = true) : pmL A B = uni A B ∧ pmB A B = pmT A B := by unfold pmL pmB; rw [if_pos h, if_pos h]; exact ⟨rfl, rfl⟩
theorem pm_no {A B : List Int} (h : pmOk A B = false) : pmL A B = [] ∧ pmB A B = [] := by unfold pmL pmB; rw [if_neg (by simp [h]), if_neg (by simp [h])]; exact ⟨rfl, rfl⟩
theorem pmT_len (A B : List Int) : (pmT A B).length = (uni A B).length := mkOf_len _ _
theorem pm_len (A B : List Int) : (pmL A B).length ≤ 16 ∧ (pmB A B).length = (pmL A B).length := by
  cases h : pmOk A B with
  | true =>
    rw [(pm_yes h).1, (pm_yes h).2]
    have h2 : two A B = true := by unfold pmOk at h; simp only [Bool.and_eq_true] at h; exact h.1
    exact ⟨by have := uniF_len A B; rw [uniF_yes h2] at this; exact this, pmT_len A B⟩
  | false => rw [(pm_no h).1, (pm_no h).2]; simp
end NP
end Go.Proofs.Ytbbbfaollcklkaa
namespace Go.Proofs.Ytbbbfaollcklkaa
open Go.RowKit NP
set_option maxRecDepth 8000
set_option linter.unusedVariables false



theorem isCorner_any (D : List Int) (hD : D.length = 16) (i : Nat) (hi : i < 16) (w : World) :
    Calls Try.prog 66 #[.agg (arr D), .int .i64 i] w fun e w' => e = .returned (.bool (isCD D i)) ∧ Below w.heap.size w w' := by
  have hiD : i < D.length := by omega
  have hc := box_cell w D i hiD
  have hi' : (i : Int) < 16 := by omega
  have g0 : D.getD i 0 = D[i] := by rw [List.getD_eq_getElem?_getD, List.getElem?_eq_getElem hiD, Option.getD_some]
  by_cases h0 : 0 < D[i]
  · by_cases h15 : i = 15
    · have e1 : ((i : Int) == 15) = true := beq_iff_eq.2 (by omega)
      have HC : Hid (isCD D i = true) := Lib.hid (by unfold isCD; rw [g0, decide_eq_true h0, decide_eq_true h15]; rfl)
      clear h15 g0
      go_enter Try.func66, Try.ntmps66
      go_wp2_with fail
      go_quiet (fail)
      go_wp2
      go_ret
      exact ⟨ret_bool HC.out.symm, ((Below.refl _ _).alloc (Nat.le_refl _) _).trans ((Dr.n _ _).below _)⟩
    · have e1 : ((i : Int) == 15) = false := beq_eq_false_iff_ne.2 (by omega)
      have hi1 : i + 1 < D.length := by omega
      have hc1 := box_cell w D (i + 1) hi1
      have HC : Hid (isCD D i = decide (D[i + 1] < D[i])) := Lib.hid (by unfold isCD; rw [g0, List.getD_eq_getElem?_getD, List.getElem?_eq_getElem hi1, Option.getD_some, decide_eq_true h0, decide_eq_false h15]; rfl)
      clear h15 g0
      go_enter Try.func66, Try.ntmps66
      go_wp2_with fail
      go_quiet (fail)
      go_wp2
      go_ret
      exact ⟨ret_bool HC.out.symm, ((Below.refl _ _).alloc (Nat.le_refl _) _).trans ((Dr.n _ _).below _)⟩
  · have HC : Hid (isCD D i = false) := Lib.hid (by unfold isCD; rw [g0, decide_eq_false h0]; rfl)
    clear g0
    have h0' : decide (0 < D[i]) = false := decide_eq_false h0
    clear h0
    go_enter Try.func66, Try.ntmps66
    go_wp2_with fail
    go_quiet (fail)
    go_wp2
    go_ret
    exact ⟨ret_bool HC.out.symm, ((Below.refl _ _).alloc (Nat.le_refl _) _).trans ((Dr.n _ _).below _)⟩

theorem dcorners_any (D : List Int) (hD : D.length = 16) (w : World) :
    Calls Try.prog 47 #[.agg (arr D)] w fun e w' => ∃ a' c', e = .returned (.slice a' (fl (isCD D) 16).length c') ∧ Own w' w.heap.size w'.heap.size 3 (.slice a' (fl (isCD D) 16).length c') (ints (fl (isCD D) 16)) ∧ Below w.heap.size w w' := by
  obtain ⟨i0, hi, hz0, hz1, hz2⟩ := T_int'
  have HD := Lib.hid hD
  have hd16 : 16 ≤ D.length := by omega
  have hi16 : (Try.prog.info? 50).map (·.size) = some (arr D).size := by rw [arr_size, hD]; exact T_info35
  clear hD
  go_enter Try.func47, Try.ntmps47
  go_wp2
  go_loopw [3, 4, 5] (fun v u i wr => ∃ k : Nat, k ≤ 16 ∧ i = .int .i64 (k : Int) ∧ Below w.heap.size w wr ∧ Blk wr w.heap.size 50 (arr D) ∧ Own wr (w.heap.size + 1) wr.heap.size 3 v (ints (fl (isCD D) k))) (fun _ _ i _ => 20 - (intOf i).toNat)
  case atStart => exact ⟨0, Nat.zero_le _, rfl, (Below.refl _ _).alloc (Nat.le_refl _) _, Blk.new _ _ _, Own.nil _ _ _⟩
  case round =>
    obtain ⟨k, hk, rfl, hbel, hblk, hown⟩ := hrel
    by_cases hlt : k < 16
    · have hlen2 : (fl (isCD D) k).length ≤ k := fl_len _ k
      have HS := Lib.hid (fl_succ (isCD D) k)
      obtain ⟨vs, hvs⟩ : ∃ vs, vs = ints (fl (isCD D) k) := ⟨_, rfl⟩
      have hlv : vs.length ≤ k := by rw [hvs]; simpa using hlen2
      rw [← hvs] at hown
      have HVS := Lib.hid hvs
      clear hvs hlen2
      have HO := Lib.hid hown
      clear hown
      cases hcb : isCD D k with
      | true =>
        have HC := Lib.hid hcb
        clear hcb
        go_wp2_with (first | (refine wpList_load_row rfl 50 (.tmp 1) rfl w.heap.size rfl 50 (arr D) (0, 0) _ hblk Try.underlying50 rfl hi16 ?_) | (go_at_call 66; refine (isCorner_any D HD.out k hlt _).mono ?_; rintro e w2 ⟨rfl, hb2⟩; rw [HC.out]; have ho2 := (HO.out.below hb2).more) | (at_builtin; refine wpList_append_o _ rfl (.tmp 11) (.tmp 13) 22 rfl (w.heap.size + 1) w2.heap.size 3 i0 (.int .i64 0) 8 Try.underlying22 hi hz0 hz1 hz2 rfl _ vs rfl (ho2.alloc _) (w2.heap.size + 1) (some ⟨w2.heap.size, 0, none⟩) 1 1 [.int .i64 (k : Int)] rfl (Rd.one _ _ _) rfl (by simp; rfl) (by unfold maxLen; omega) (by omega) (by have := hbel.size; have := hb2.size; simp; omega) ?_; intro v' w3 ho3 hg3 hat3))
        go_roundw
        case rel =>
          have hz := hbel.size
          have hb12 : Below w.heap.size w w2 := hbel.trans (hb2.mono (by omega))
          have hblk2 : Blk w2 w.heap.size 50 (arr D) := hblk.below hb2 hblk.lt
          refine ⟨k + 1, by omega, by go_num, below_push hb12 (Nat.le_refl _) hg3 (fun g hg => by have := HO.out.base g hg; omega), (hblk2.alloc _).grown hg3 (fun e => by have := HO.out.base _ e.symm; omega), ?_⟩
          rw [HVS.out] at ho3
          rw [HS.out, if_pos HC.out]
          simpa [ints] using ho3
        case measure => simp [intOf]; omega
      | false =>
        have HC := Lib.hid hcb
        clear hcb
        go_wp2_with (first | (refine wpList_load_row rfl 50 (.tmp 1) rfl w.heap.size rfl 50 (arr D) (0, 0) _ hblk Try.underlying50 rfl hi16 ?_) | (go_at_call 66; refine (isCorner_any D HD.out k hlt _).mono ?_; rintro e w2 ⟨rfl, hb2⟩; rw [HC.out]))
        go_roundw
        case rel =>
          refine ⟨k + 1, by omega, by go_num, hbel.trans (hb2.mono (by have := hbel.size; omega)), hblk.below hb2 hblk.lt, ?_⟩
          rw [HS.out, if_neg (by rw [HC.out]; decide), List.append_nil, ← HVS.out]
          exact (HO.out.below hb2).more
        case measure => simp [intOf]; omega
    · obtain rfl : k = 16 := by omega
      obtain ⟨a', c', rfl⟩ := hown.form
      have HO := Lib.hid hown
      clear hown
      go_wp2
      go_ret
      have hlc : (fl (isCD D) 16).length = (ints (fl (isCD D) 16)).length := by simp
      refine ⟨a', c', by rw [hlc]; rfl, ?_, hbel⟩
      rw [hlc]
      exact HO.out.lower (by omega)

end Go.Proofs.Ytbbbfaollcklkaa
namespace Go.Proofs.Ytbbbfaollcklkaa
open Go.RowKit
theorem wpList_load_row_g {P : Program} {ops : Array Oper} {rest : List Oper} {o : Oper} {a : Act} {w : World} {Q : Exit → Act → World → Prop} (hgd : Region.wanted o (yielded ops a.tmps) = true) (ty : TypeId) (x : Operand) (ho : o.op = .load ty x)
    (g : Nat) (hx : a.eval x = .pointer (some ⟨g, 0, none⟩)) (t : TypeId) (cs : Array Value) (fr : Nat × Nat) (d : TypeDesc) (hg : w.heap[g]? = some (.cells cs t fr))
    (hu : P.underlying ty = some d) (hd : (match d with | .struct _ | .array _ _ => true | _ => false) = true) (hi : (P.info? ty).map (·.size) = some cs.size)
    (h : wpList P ops Q rest (a.put o.dst (.agg cs)) w) : wpList P ops Q (o :: rest) a w :=
  wpList_step fun K hK => by
    rw [if_pos hgd]
    exact wp_load_row ty x ho g hx t cs fr d hg hu hd hi (hK _ _ h)
end Go.Proofs.Ytbbbfaollcklkaa
namespace Go.Proofs.Ytbbbfaollcklkaa
open Go.RowKit
set_option linter.unusedVariables false
set_option linter.unusedSimpArgs false
section
variable {P : Program}
theorem splice_size (cs vs : Array Value) (o : Nat) (hs : o + vs.size ≤ cs.size) : ((cs.toList.take o ++ vs.toList ++ cs.toList.drop (o + vs.size)).toArray).size = cs.size := by
  simp
  omega
theorem run_storeVar_at (w : World) (g o : Nat) (t ty : TypeId) (cs vs : Array Value) (hg : Blk w g t cs) (hi : (P.info? ty).map (·.size) = some vs.size) (hs : o + vs.size ≤ cs.size) (h1 : ∀ v ∈ vs.toList, v.oneCell' = true) :
    (storeVar ty ⟨g, o, none⟩ (.agg vs)).run P w = .ok () (w.setRow g (cs.toList.take o ++ vs.toList ++ cs.toList.drop (o + vs.size)).toArray) := by
  cases hq : P.info? ty with
  | none => simp [hq] at hi
  | some i =>
    have hz : i.size = vs.size := by simpa [hq] using hi
    have hst := run_storeCells_at P g o t vs.toList 0 cs w hg (by simp; omega) h1
    simp only [Nat.add_zero, Array.length_toList] at hst
    simp [storeVar, Sem.run_bind, sizeOf, typeInfo, hq, hz, Value.cells, hst]
theorem wpList_store_at {ops : Array Oper} {rest : List Oper} {oo : Oper} {a : Act} {w : World} {Q : Exit → Act → World → Prop} (hgd : oo.guard = none) (ty : TypeId) (x v : Operand) (ho : oo.op = .store ty x v)
    (g o : Nat) (hx : a.eval x = .pointer (some ⟨g, o, none⟩)) (vs : Array Value) (hv : a.eval v = .agg vs) (t : TypeId) (cs : Array Value) (hg : Blk w g t cs)
    (hi : (P.info? ty).map (·.size) = some vs.size) (hs : o + vs.size ≤ cs.size) (h1 : ∀ v ∈ vs.toList, v.oneCell' = true)
    (h : wpList P ops Q rest (a.put oo.dst undef) (w.setRow g (cs.toList.take o ++ vs.toList ++ cs.toList.drop (o + vs.size)).toArray)) : wpList P ops Q (oo :: rest) a w :=
  wpList_plain hgd fun _ hK => by
    unfold Oper.wp execOp
    simp only [ho, hx, hv, Instr.storeAt, Instr.sureAddr, Sem.run_bind, Sem.run_pure, Result.andThen_ok, run_storeVar_at w g o t ty cs vs hg hi hs h1]
    exact hK _ _ h
theorem run_loadVar_at (w : World) (g o : Nat) (t ty : TypeId) (cs vs : Array Value) (d : TypeDesc) (hg : Blk w g t cs)
    (hu : P.underlying ty = some d) (hd : (match d with | .struct _ | .array _ _ => true | _ => false) = true) (hi : (P.info? ty).map (·.size) = some vs.size)
    (hv : ∀ j (v : Value), vs[j]? = some v → cs[o + j]? = some v) : (loadVar ty ⟨g, o, none⟩).run P w = .ok (.agg vs) w := by
  have hl : (loadCells ⟨g, o, none⟩ vs.toList.length).run P w = .ok vs.toList.toArray w :=
    run_loadCells_list (P := P) w ⟨g, o, none⟩ vs.toList (fun j v hj => by
      have hadd : (⟨g, o, none⟩ : Addr).add j = ⟨g, o + j, none⟩ := by unfold Addr.add; split <;> simp_all
      rw [hadd, hg.cell (o + j)]
      exact hv j v (by simpa using hj))
  cases hq : P.info? ty with
  | none => simp [hq] at hi
  | some i =>
    have hz : i.size = vs.size := by simpa [hq] using hi
    have hagg : (isAgg ty).run P w = .ok true w := by
      unfold isAgg
      rw [Sem.run_bind, run_underlying hu w]
      cases d <;> simp_all
    simp only [Array.length_toList, Array.toArray_toList] at hl
    simp [loadVar, Sem.run_bind, hagg, sizeOf, typeInfo, hq, hz, hl]
theorem wpList_load_at {ops : Array Oper} {rest : List Oper} {oo : Oper} {a : Act} {w : World} {Q : Exit → Act → World → Prop} (hgd : oo.guard = none) (ty : TypeId) (x : Operand) (ho : oo.op = .load ty x)
    (g o : Nat) (hx : a.eval x = .pointer (some ⟨g, o, none⟩)) (t : TypeId) (cs vs : Array Value) (d : TypeDesc) (hg : Blk w g t cs)
    (hu : P.underlying ty = some d) (hd : (match d with | .struct _ | .array _ _ => true | _ => false) = true) (hi : (P.info? ty).map (·.size) = some vs.size)
    (hv : ∀ j (v : Value), vs[j]? = some v → cs[o + j]? = some v)
    (h : wpList P ops Q rest (a.put oo.dst (.agg vs)) w) : wpList P ops Q (oo :: rest) a w :=
  wpList_plain hgd fun _ hK => by
    unfold Oper.wp execOp
    simp only [ho, hx, Instr.loadAt, Instr.sureAddr, Sem.run_bind, Sem.run_pure, Result.andThen_ok, run_loadVar_at w g o t ty cs vs d hg hu hd hi hv]
    exact hK _ _ h
theorem run_index_agg (T e : TypeId) (d : TypeDesc) (n m : Nat) (hT : P.underlying T = some (.array n e)) (he : P.underlying e = some d) (hd : (match d with | .struct _ | .array _ _ => true | _ => false) = true) (hc : (P.info? e).map (·.size) = some m)
    (cs : Array Value) (k : Nat) (hk : k < n) (kd : IntKind) (w : World) : (Instr.index T (.agg cs) (.int kd k)).run P w = .ok (.agg (cs.extract (k * m) (k * m + m))) w := by
  cases hq : P.info? e with
  | none => simp [hq] at hc
  | some i =>
    have hz : i.size = m := by simpa [hq] using hc
    have hagg : ∀ w : World, (isAgg e).run P w = .ok true w := by
      intro w
      unfold isAgg
      rw [Sem.run_bind, run_underlying he w]
      cases d <;> simp_all
    simp [Instr.index, asIntOf, Sem.run_bind, run_underlying hT, sizeOf, typeInfo, hq, hz, part, hagg]
    intro hnk
    omega
end
/-- sixteen rows of sixteen -/
def Sq (R : List (List Int)) : Prop := R.length = 16 ∧ ∀ L ∈ R, L.length = 16
theorem flat_len {R : List (List Int)} (h : ∀ L ∈ R, L.length = 16) : R.flatten.length = 16 * R.length := by
  induction R with
  | nil => rfl
  | cons x S ih => rw [List.flatten_cons, List.length_append, ih (fun L hL => h L (List.mem_cons_of_mem _ hL)), h x (List.mem_cons_self ..)]; simp; omega
theorem flat_drop {R : List (List Int)} (h : ∀ L ∈ R, L.length = 16) (i : Nat) : R.flatten.drop (16 * i) = (R.drop i).flatten := by
  induction R generalizing i with
  | nil => simp
  | cons x S ih =>
    have hx := h x (List.mem_cons_self ..)
    cases i with
    | zero => simp
    | succ i =>
      rw [List.flatten_cons, List.drop_succ_cons, ← ih (fun L hL => h L (List.mem_cons_of_mem _ hL)), show 16 * (i + 1) = x.length + 16 * i by omega, List.drop_append]
      rw [List.drop_eq_nil_of_le (by omega)]
      simp
theorem flat_take {R : List (List Int)} (h : ∀ L ∈ R, L.length = 16) (i : Nat) : R.flatten.take (16 * i) = (R.take i).flatten := by
  induction R generalizing i with
  | nil => simp
  | cons x S ih =>
    have hx := h x (List.mem_cons_self ..)
    cases i with
    | zero => simp
    | succ i =>
      rw [List.flatten_cons, List.take_succ_cons, List.flatten_cons, ← ih (fun L hL => h L (List.mem_cons_of_mem _ hL)), show 16 * (i + 1) = x.length + 16 * i by omega, List.take_append]
      rw [List.take_of_length_le (by omega)]
      simp
theorem flat_row {R : List (List Int)} (h : ∀ L ∈ R, L.length = 16) {i : Nat} (hi : i < R.length) : (R.flatten.drop (16 * i)).take 16 = R[i] := by
  rw [flat_drop h, List.drop_eq_getElem_cons hi, List.flatten_cons, List.take_append, List.take_of_length_le (by rw [h _ (List.getElem_mem hi)]; exact Nat.le_refl _), h _ (List.getElem_mem hi)]
  simp
theorem flat_get {R : List (List Int)} (h : ∀ L ∈ R, L.length = 16) {i k : Nat} (hi : i < R.length) (hk : k < 16) : R.flatten[16 * i + k]? = R[i][k]? := by
  have := flat_row h hi
  rw [← this, List.getElem?_take, if_pos hk, List.getElem?_drop]
theorem flat_setRow {R : List (List Int)} (h : ∀ L ∈ R, L.length = 16) {i : Nat} (hi : i < R.length) (L : List Int) : R.flatten.take (16 * i) ++ L ++ R.flatten.drop (16 * i + 16) = (R.set i L).flatten := by
  rw [show 16 * i + 16 = 16 * (i + 1) by omega, flat_take h, flat_drop h, List.set_eq_take_append_cons_drop, if_pos hi, List.flatten_append, List.flatten_cons, List.append_assoc]
theorem flat_set {R : List (List Int)} (h : ∀ L ∈ R, L.length = 16) {i k : Nat} (hi : i < R.length) (hk : k < 16) (v : Int) : R.flatten.set (16 * i + k) v = (R.set i (R[i].set k v)).flatten := by
  have hl := flat_len h
  rw [← flat_setRow h hi]
  have hrow := flat_row h hi
  have hd : R.flatten = R.flatten.take (16 * i) ++ R[i] ++ R.flatten.drop (16 * i + 16) := by
    rw [← hrow, List.append_assoc, ← List.drop_drop, List.take_append_drop, List.take_append_drop]
  have ht : (R.flatten.take (16 * i)).length = 16 * i := by rw [List.length_take]; omega
  have hri : R[i].length = 16 := h _ (List.getElem_mem hi)
  conv => lhs; rw [hd]
  rw [List.append_assoc, List.set_append_right _ _ (by omega), ht, Nat.add_sub_cancel_left, List.set_append_left _ _ (by omega), List.append_assoc]
theorem arr_splice (D L : List Int) (o : Nat) : ((arr D).toList.take o ++ (arr L).toList ++ (arr D).toList.drop (o + (arr L).size)).toArray = arr (D.take o ++ L ++ D.drop (o + L.length)) := by
  simp [arr, ints, List.map_take, List.map_drop]
theorem arr_extract (D : List Int) (o n : Nat) : (arr D).extract o (o + n) = arr ((D.drop o).take n) := by
  apply Array.toList_inj.1
  simp [arr, ints, List.map_take, List.map_drop]
theorem arr_flat_row {R : List (List Int)} (h : ∀ L ∈ R, L.length = 16) {i : Nat} (hi : i < R.length) : (arr R.flatten).extract (i * 16) (i * 16 + 16) = arr R[i] := by
  rw [arr_extract, Nat.mul_comm i 16, flat_row h hi]
theorem arr_flat_store {R : List (List Int)} (h : ∀ L ∈ R, L.length = 16) {i : Nat} (hi : i < R.length) {L : List Int} (hL : L.length = 16) :
    ((arr R.flatten).toList.take (16 * i) ++ (arr L).toList ++ (arr R.flatten).toList.drop (16 * i + (arr L).size)).toArray = arr (R.set i L).flatten := by
  rw [arr_splice, hL, flat_setRow h hi]
theorem sq_set {R : List (List Int)} (h : Sq R) (i : Nat) {L : List Int} (hL : L.length = 16) : Sq (R.set i L) := by
  refine ⟨by rw [List.length_set]; exact h.1, fun M hM => ?_⟩
  rcases List.mem_or_eq_of_mem_set hM with h1 | h1
  · exact h.2 M h1
  · rw [h1]; exact hL
theorem sq_len {R : List (List Int)} (h : Sq R) : R.flatten.length = 256 := by rw [flat_len h.2, h.1]
end Go.Proofs.Ytbbbfaollcklkaa
namespace Go.Proofs.Ytbbbfaollcklkaa
open Go.RowKit NP
set_option maxRecDepth 100000
set_option linter.unusedVariables false
set_option linter.unusedSimpArgs false
theorem T_md : (Try.prog.info? 53).map (·.size) = some 32 := by kernel_rfl
theorem T_mk : (Try.prog.info? 28).map (·.size) = some 2 := by kernel_rfl
theorem T_bmd0 (w : World) : (Instr.build 53 #[]).run Try.prog w = .ok (.agg (mdA (List.replicate 16 0) (List.replicate 16 false))) w := by kernel_rfl
theorem T_bmd1 (e0 e1 e2 e3 e4 e5 e6 e7 e8 e9 e10 e11 e12 e13 e14 e15 : Int) (w : World) : (Instr.build 53 #[(0, .agg (arr [e0, e1, e2, e3, e4, e5, e6, e7, e8, e9, e10, e11, e12, e13, e14, e15]))]).run Try.prog w = .ok (.agg (mdA [e0, e1, e2, e3, e4, e5, e6, e7, e8, e9, e10, e11, e12, e13, e14, e15] (List.replicate 16 false))) w := by kernel_rfl
theorem T_bmd (E : List Int) (hE : E.length = 16) (w : World) : (Instr.build 53 #[(0, .agg (arr E))]).run Try.prog w = .ok (.agg (mdA E (List.replicate 16 false))) w := by
  match E, hE with
  | [e0, e1, e2, e3, e4, e5, e6, e7, e8, e9, e10, e11, e12, e13, e14, e15], _ => exact T_bmd1 e0 e1 e2 e3 e4 e5 e6 e7 e8 e9 e10 e11 e12 e13 e14 e15 w
theorem exec_build1 {P : Program} {ρ : Operand → Value} {o : Oper} {w : World} {v u1 : Value} (t : TypeId) (x : Operand) (ho : o.op = .build t #[(0, x)]) (hx : ρ x = u1) (h : (Instr.build t #[(0, u1)]).run P w = .ok v w) :
    (execOp ρ o).run P w = .ok (.value v) w := by
  unfold execOp
  simp only [ho, Sem.run_bind, List.map_toArray, List.map_cons, List.map_nil, hx]
  rw [h]
  rfl
theorem wpList_exec {P : Program} {w : World} {ops : Array Oper} {rest : List Oper} {o : Oper} {a : Act} {Q : Exit → Act → World → Prop} (hgd : o.guard = none) {v : Value} (h : (execOp a.eval o).run P w = .ok (.value v) w)
    (hk : wpList P ops Q rest (a.put o.dst v) w) : wpList P ops Q (o :: rest) a w :=
  wpList_plain hgd fun _ hK => by
    unfold Oper.wp
    rw [h]
    exact hK _ _ hk
theorem boolAt {w : World} {B : Nat} {a : Option Addr} {bs : List Bool} (h : Rd w B a (bls bs)) {k : Nat} (hk : k < bs.length) : ∃ b o, a = some ⟨b, o, none⟩ ∧ b < B ∧ w.cell? ⟨b, o + k, none⟩ = some (.bool bs[k]) := by
  obtain ⟨b, o, h1, h2, h3⟩ := h (fun e => by
    have h0 : bs.length = 0 := by simpa using congrArg List.length e
    omega)
  exact ⟨b, o, h1, h2, h3 k _ (by simp [hk])⟩
set_option maxHeartbeats 4000000 in
theorem mdOf_any (a1 a2 : Option Addr) (c1 c2 B1 B2 : Nat) (L : List Int) (bs : List Bool) (w : World) (h1 : Rd w B1 a1 (ints L)) (h2 : Rd w B2 a2 (bls bs)) (hB1 : B1 ≤ w.heap.size) (hB2 : B2 ≤ w.heap.size) (hl1 : L.length ≤ 4611686018427387904) (hl2 : bs.length ≤ 4611686018427387904) :
    Calls Try.prog 40 #[.agg #[.slice a1 L.length c1, .slice a2 bs.length c2]] w fun e w' => e = .returned (.tuple #[.agg (mdA (mdD L bs) (mdE L bs)), .bool (vmk L bs)]) ∧ Below w.heap.size w w' := by
  have hu := Try.underlying50
  have hum := Try.underlying53
  have hi16 : (Try.prog.info? 50).map (·.size) = some (arr (dg L)).size := by rw [arr_size, dg_len]; exact T_info35
  have hsz : (arr (dg L)).size = (arr (List.replicate 16 0)).size := by rw [arr_size, arr_size, dg_len]; rfl
  have HDO := Lib.hid (fun w h hB => diagramOf_any a1 c1 B1 L w h hB hl1)
  obtain ⟨v, hv⟩ : ∃ v, v = valid L := ⟨_, rfl⟩
  rw [← hv] at HDO
  have hiZ : (Try.prog.info? 53).map (·.size) = some (#[.int .i64 0, .int .i64 0, .int .i64 0, .int .i64 0, .int .i64 0, .int .i64 0, .int .i64 0, .int .i64 0, .int .i64 0, .int .i64 0, .int .i64 0, .int .i64 0, .int .i64 0, .int .i64 0, .int .i64 0, .int .i64 0, .bool false, .bool false, .bool false, .bool false, .bool false, .bool false, .bool false, .bool false, .bool false, .bool false, .bool false, .bool false, .bool false, .bool false, .bool false, .bool false] : Array Value).size := T_md
  have honeZ : ∀ v ∈ (#[.int .i64 0, .int .i64 0, .int .i64 0, .int .i64 0, .int .i64 0, .int .i64 0, .int .i64 0, .int .i64 0, .int .i64 0, .int .i64 0, .int .i64 0, .int .i64 0, .int .i64 0, .int .i64 0, .int .i64 0, .int .i64 0, .bool false, .bool false, .bool false, .bool false, .bool false, .bool false, .bool false, .bool false, .bool false, .bool false, .bool false, .bool false, .bool false, .bool false, .bool false, .bool false] : Array Value).toList, v.oneCell' = true := mdA_one (List.replicate 16 0) (List.replicate 16 false)
  have HZN : Hid (vmk L bs = false → mdD L bs = List.replicate 16 0 ∧ mdE L bs = List.replicate 16 false) := Lib.hid (fun h => md_no h)
  have hb0 : Blk (w.alloc (.cells #[.slice a1 L.length c1, .slice a2 bs.length c2] 28)) w.heap.size 28 #[.slice a1 L.length c1, .slice a2 bs.length c2] := Blk.new w _ _
  have hbr0 : Blk ((w.alloc (.cells #[.slice a1 L.length c1, .slice a2 bs.length c2] 28)).alloc (.cells #[.int .i64 0, .int .i64 0, .int .i64 0, .int .i64 0, .int .i64 0, .int .i64 0, .int .i64 0, .int .i64 0, .int .i64 0, .int .i64 0, .int .i64 0, .int .i64 0, .int .i64 0, .int .i64 0, .int .i64 0, .int .i64 0, .bool false, .bool false, .bool false, .bool false, .bool false, .bool false, .bool false, .bool false, .bool false, .bool false, .bool false, .bool false, .bool false, .bool false, .bool false, .bool false] 53)) (w.heap.size + 1) 53 #[.int .i64 0, .int .i64 0, .int .i64 0, .int .i64 0, .int .i64 0, .int .i64 0, .int .i64 0, .int .i64 0, .int .i64 0, .int .i64 0, .int .i64 0, .int .i64 0, .int .i64 0, .int .i64 0, .int .i64 0, .int .i64 0, .bool false, .bool false, .bool false, .bool false, .bool false, .bool false, .bool false, .bool false, .bool false, .bool false, .bool false, .bool false, .bool false, .bool false, .bool false, .bool false] := by
    have e := Blk.new (w.alloc (.cells #[.slice a1 L.length c1, .slice a2 bs.length c2] 28)) 53 #[.int .i64 0, .int .i64 0, .int .i64 0, .int .i64 0, .int .i64 0, .int .i64 0, .int .i64 0, .int .i64 0, .int .i64 0, .int .i64 0, .int .i64 0, .int .i64 0, .int .i64 0, .int .i64 0, .int .i64 0, .int .i64 0, .bool false, .bool false, .bool false, .bool false, .bool false, .bool false, .bool false, .bool false, .bool false, .bool false, .bool false, .bool false, .bool false, .bool false, .bool false, .bool false]
    rw [World.size_alloc] at e
    exact e
  have hA0 : Below w.heap.size w ((w.alloc (.cells #[.slice a1 L.length c1, .slice a2 bs.length c2] 28)).alloc (.cells #[.int .i64 0, .int .i64 0, .int .i64 0, .int .i64 0, .int .i64 0, .int .i64 0, .int .i64 0, .int .i64 0, .int .i64 0, .int .i64 0, .int .i64 0, .int .i64 0, .int .i64 0, .int .i64 0, .int .i64 0, .int .i64 0, .bool false, .bool false, .bool false, .bool false, .bool false, .bool false, .bool false, .bool false, .bool false, .bool false, .bool false, .bool false, .bool false, .bool false, .bool false, .bool false] 53)) := ((Below.refl _ _).alloc (Nat.le_refl _) _).alloc (by simp) _
  have hb0' := hb0.alloc (.cells #[.int .i64 0, .int .i64 0, .int .i64 0, .int .i64 0, .int .i64 0, .int .i64 0, .int .i64 0, .int .i64 0, .int .i64 0, .int .i64 0, .int .i64 0, .int .i64 0, .int .i64 0, .int .i64 0, .int .i64 0, .int .i64 0, .bool false, .bool false, .bool false, .bool false, .bool false, .bool false, .bool false, .bool false, .bool false, .bool false, .bool false, .bool false, .bool false, .bool false, .bool false, .bool false] 53)
  obtain ⟨W, hW⟩ : ∃ W, (w.alloc (.cells #[.slice a1 L.length c1, .slice a2 bs.length c2] 28)).alloc (.cells #[.int .i64 0, .int .i64 0, .int .i64 0, .int .i64 0, .int .i64 0, .int .i64 0, .int .i64 0, .int .i64 0, .int .i64 0, .int .i64 0, .int .i64 0, .int .i64 0, .int .i64 0, .int .i64 0, .int .i64 0, .int .i64 0, .bool false, .bool false, .bool false, .bool false, .bool false, .bool false, .bool false, .bool false, .bool false, .bool false, .bool false, .bool false, .bool false, .bool false, .bool false, .bool false] 53) = W := ⟨_, rfl⟩
  have hWs : w.heap.size + 2 ≤ W.heap.size := by rw [← hW]; simp
  rw [hW] at hbr0 hA0 hb0'
  have hm1 : W.cell? ⟨w.heap.size, 0, none⟩ = some (.slice a1 L.length c1) := hb0'.cell 0
  have hm2 : W.cell? ⟨w.heap.size, 1, none⟩ = some (.slice a2 bs.length c2) := hb0'.cell 1
  have hr1 := (h1.more hB1).below hA0
  have hr2 := (h2.more hB2).below hA0
  have h2b := h2.more hB2
  have HDO2 : Hid (Calls Try.prog 52 #[.slice a1 L.length c1] W fun e w' => e = .returned (.tuple #[.agg (arr (dg L)), .bool v]) ∧ Below W.heap.size W w') := Lib.hid (HDO.out W (h1.below (hA0.mono (Nat.le_trans hB1 (Nat.le_refl _)))) (by omega))
  clear hb0 h1 h2 HDO
  cases v with
  | false =>
    have HF : Hid (vmk L bs = false) := Lib.hid (vmk_badL hv.symm)
    replace HZN := Lib.hid (HZN.out HF.out)
    clear hv
    go_enter Try.func40, Try.ntmps40
    go_wp2_with (first
      | (go_at_call 52; refine HDO2.out.mono ?_; rintro e w1 ⟨rfl, hb1⟩; have hzb1 := hb1.size)
      | (refine wpList_store_row rfl 50 (.tmp 4) (.tmp 13) rfl w1.heap.size rfl (arr (dg L)) rfl 50 (arr (List.replicate 16 0)) (Blk.new w1 _ _) hi16 hsz (arr_one _) ?_; have hB3 := (Blk.new w1 50 (arr (List.replicate 16 0))).row (vs := arr (dg L)); have hb13 : Below w1.heap.size w1 ((w1.alloc (.cells (arr (List.replicate 16 0)) 50)).setRow w1.heap.size (arr (dg L))) := below_setRow' ((Below.refl _ _).alloc (Nat.le_refl _) _) (Nat.le_refl _) _; obtain ⟨w3, hw3⟩ : ∃ w3, w3 = (w1.alloc (.cells (#[.int .i64 0, .int .i64 0, .int .i64 0, .int .i64 0, .int .i64 0, .int .i64 0, .int .i64 0, .int .i64 0, .int .i64 0, .int .i64 0, .int .i64 0, .int .i64 0, .int .i64 0, .int .i64 0, .int .i64 0, .int .i64 0]) 50)).setRow w1.heap.size (arr (dg L)) := ⟨_, rfl⟩; rw [← hw3]; replace hB3 : Blk w3 w1.heap.size 50 (arr (dg L)) := hw3 ▸ hB3; replace hb13 : Below w1.heap.size w1 w3 := hw3 ▸ hb13; clear hw3; have hbB := hb1.trans (hb13.mono hzb1); have hbr3 := hbr0.below hbB hbr0.lt; have hbel3 := hA0.trans (hbB.mono (by omega)))
      | (refine wpList_store_row rfl 53 (.tmp 2) (.tmp 26) rfl (w.heap.size + 1) rfl #[.int .i64 0, .int .i64 0, .int .i64 0, .int .i64 0, .int .i64 0, .int .i64 0, .int .i64 0, .int .i64 0, .int .i64 0, .int .i64 0, .int .i64 0, .int .i64 0, .int .i64 0, .int .i64 0, .int .i64 0, .int .i64 0, .bool false, .bool false, .bool false, .bool false, .bool false, .bool false, .bool false, .bool false, .bool false, .bool false, .bool false, .bool false, .bool false, .bool false, .bool false, .bool false] rfl 53 _ hbr3 hiZ rfl honeZ ?_))
    refine bodyPost_ret (results_cell_tmp rfl _ _ (w.heap.size + 1) 53 #[.int .i64 0, .int .i64 0, .int .i64 0, .int .i64 0, .int .i64 0, .int .i64 0, .int .i64 0, .int .i64 0, .int .i64 0, .int .i64 0, .int .i64 0, .int .i64 0, .int .i64 0, .int .i64 0, .int .i64 0, .int .i64 0, .bool false, .bool false, .bool false, .bool false, .bool false, .bool false, .bool false, .bool false, .bool false, .bool false, .bool false, .bool false, .bool false, .bool false, .bool false, .bool false] (0, 0) _ rfl hbr3.row hum rfl hiZ) rfl ?_
    rw [HF.out, HZN.out.1, HZN.out.2]
    exact ⟨rfl, below_setRow' hbel3 (by omega) _⟩
  | true =>
    have hvt := hv.symm
    have hbd := valid_bd hvt
    have hdg := dg_yes hvt
    rw [hdg] at hi16 hsz HDO2
    have HVT := Lib.hid hvt
    have hpl := pad_len hbd.2.2.2
    have hB1' : ∀ w : World, (Instr.build 53 #[(0, .agg (arr (pad L)))]).run Try.prog w = .ok (.agg (mdA (pad L) (padB (bs.take 0)))) w := fun w => T_bmd (pad L) hpl w
    have hiY : ∀ k, k ≤ 16 → (Try.prog.info? 53).map (·.size) = some (mdA (pad L) (padB (bs.take k))).size := fun k hk => by rw [mdA_size, hpl, padB_len (by rw [List.length_take]; omega)]; exact T_md
    have HIY := Lib.hid hiY
    have HPL := Lib.hid hpl
    clear hv hdg hvt hiY
    by_cases hlen : bs.length = L.length
    · have hne : ((bs.length : Int) != (L.length : Int)) = false := by simp [hlen]
      have hbl16 : bs.length ≤ 16 := by omega
      have HLEN := Lib.hid hlen
      clear hlen
      obtain ⟨Y, hY⟩ : ∃ Y, Y = mdA (pad L) (padB (bs.take 0)) := ⟨_, rfl⟩
      rw [← hY] at hB1'
      have hi0 : (Try.prog.info? 53).map (·.size) = some Y.size := by rw [hY]; exact HIY.out 0 (by omega)
      have hszY : Y.size = (#[.int .i64 0, .int .i64 0, .int .i64 0, .int .i64 0, .int .i64 0, .int .i64 0, .int .i64 0, .int .i64 0, .int .i64 0, .int .i64 0, .int .i64 0, .int .i64 0, .int .i64 0, .int .i64 0, .int .i64 0, .int .i64 0, .bool false, .bool false, .bool false, .bool false, .bool false, .bool false, .bool false, .bool false, .bool false, .bool false, .bool false, .bool false, .bool false, .bool false, .bool false, .bool false] : Array Value).size := by have e1 := HIY.out 0 (by omega); rw [← hY, hiZ] at e1; exact (Option.some.inj e1).symm
      have honeY : ∀ v ∈ Y.toList, v.oneCell' = true := by rw [hY]; exact mdA_one _ _
      have HYY := Lib.hid hY
      clear hY
      go_enter Try.func40, Try.ntmps40
      go_wp2_with (first
        | (go_at_call 52; refine HDO2.out.mono ?_; rintro e w1 ⟨rfl, hb1⟩; have hzb1 := hb1.size)
        | (refine wpList_store_row rfl 50 (.tmp 4) (.tmp 13) rfl w1.heap.size rfl (arr (pad L)) rfl 50 (arr (List.replicate 16 0)) (Blk.new w1 _ _) hi16 hsz (arr_one _) ?_; have hB3 := (Blk.new w1 50 (arr (List.replicate 16 0))).row (vs := arr (pad L)); have hb13 : Below w1.heap.size w1 ((w1.alloc (.cells (arr (List.replicate 16 0)) 50)).setRow w1.heap.size (arr (pad L))) := below_setRow' ((Below.refl _ _).alloc (Nat.le_refl _) _) (Nat.le_refl _) _; obtain ⟨w3, hw3⟩ : ∃ w3, w3 = (w1.alloc (.cells (#[.int .i64 0, .int .i64 0, .int .i64 0, .int .i64 0, .int .i64 0, .int .i64 0, .int .i64 0, .int .i64 0, .int .i64 0, .int .i64 0, .int .i64 0, .int .i64 0, .int .i64 0, .int .i64 0, .int .i64 0, .int .i64 0]) 50)).setRow w1.heap.size (arr (pad L)) := ⟨_, rfl⟩; rw [← hw3]; replace hB3 : Blk w3 w1.heap.size 50 (arr (pad L)) := hw3 ▸ hB3; replace hb13 : Below w1.heap.size w1 w3 := hw3 ▸ hb13; clear hw3; have hbB := hb1.trans (hb13.mono hzb1); have hb3x := hb0'.below hbB hb0'.lt; have hm1' : w3.cell? ⟨w.heap.size, 0, none⟩ = some (.slice a1 L.length c1) := hb3x.cell 0; have hm2' : w3.cell? ⟨w.heap.size, 1, none⟩ = some (.slice a2 bs.length c2) := hb3x.cell 1; have hbr3 := hbr0.below hbB hbr0.lt; have hbel3 := hA0.trans (hbB.mono (by omega)); have hw3s := hbel3.size)
        | (refine wpList_exec rfl (exec_build1 (u1 := .agg (arr (pad L))) (v := .agg Y) 53 (.tmp 27) rfl rfl (hB1' _)) ?_)
        | (refine wpList_load_row rfl 50 (.tmp 4) rfl w1.heap.size rfl 50 (arr (pad L)) (0, 0) _ hB3 hu rfl hi16 ?_)
        | (refine wpList_store_row rfl 53 (.tmp 6) (.tmp 28) rfl w3.heap.size rfl Y rfl 53 #[.int .i64 0, .int .i64 0, .int .i64 0, .int .i64 0, .int .i64 0, .int .i64 0, .int .i64 0, .int .i64 0, .int .i64 0, .int .i64 0, .int .i64 0, .int .i64 0, .int .i64 0, .int .i64 0, .int .i64 0, .int .i64 0, .bool false, .bool false, .bool false, .bool false, .bool false, .bool false, .bool false, .bool false, .bool false, .bool false, .bool false, .bool false, .bool false, .bool false, .bool false, .bool false] (Blk.new w3 _ _) hi0 hszY honeY ?_; have hB5 := (Blk.new w3 53 #[.int .i64 0, .int .i64 0, .int .i64 0, .int .i64 0, .int .i64 0, .int .i64 0, .int .i64 0, .int .i64 0, .int .i64 0, .int .i64 0, .int .i64 0, .int .i64 0, .int .i64 0, .int .i64 0, .int .i64 0, .int .i64 0, .bool false, .bool false, .bool false, .bool false, .bool false, .bool false, .bool false, .bool false, .bool false, .bool false, .bool false, .bool false, .bool false, .bool false, .bool false, .bool false]).row (vs := Y); have hb35 : Below w3.heap.size w3 ((w3.alloc (.cells #[.int .i64 0, .int .i64 0, .int .i64 0, .int .i64 0, .int .i64 0, .int .i64 0, .int .i64 0, .int .i64 0, .int .i64 0, .int .i64 0, .int .i64 0, .int .i64 0, .int .i64 0, .int .i64 0, .int .i64 0, .int .i64 0, .bool false, .bool false, .bool false, .bool false, .bool false, .bool false, .bool false, .bool false, .bool false, .bool false, .bool false, .bool false, .bool false, .bool false, .bool false, .bool false] 53)).setRow w3.heap.size Y) := below_setRow' ((Below.refl _ _).alloc (Nat.le_refl _) _) (Nat.le_refl _) _; obtain ⟨w5, hw5⟩ : ∃ w5, w5 = (w3.alloc (.cells #[.int .i64 0, .int .i64 0, .int .i64 0, .int .i64 0, .int .i64 0, .int .i64 0, .int .i64 0, .int .i64 0, .int .i64 0, .int .i64 0, .int .i64 0, .int .i64 0, .int .i64 0, .int .i64 0, .int .i64 0, .int .i64 0, .bool false, .bool false, .bool false, .bool false, .bool false, .bool false, .bool false, .bool false, .bool false, .bool false, .bool false, .bool false, .bool false, .bool false, .bool false, .bool false] 53)).setRow w3.heap.size Y := ⟨_, rfl⟩; rw [← hw5]; replace hB5 : Blk w5 w3.heap.size 53 Y := hw5 ▸ hB5; replace hb35 : Below w3.heap.size w3 w5 := hw5 ▸ hb35; clear hw5; have hb5x := hb3x.below hb35 hb3x.lt; have hm1q : w5.cell? ⟨w.heap.size, 0, none⟩ = some (.slice a1 L.length c1) := hb5x.cell 0; have hm2q : w5.cell? ⟨w.heap.size, 1, none⟩ = some (.slice a2 bs.length c2) := hb5x.cell 1; have hB3' := hB3.below hb35 hB3.lt; have hbr5 := hbr3.below hb35 hbr3.lt; have hbel5 := hbel3.trans (hb35.mono hbel3.size)))
      have hDne : w1.heap.size ≠ w3.heap.size := by have := hB3.lt; omega
      have hGne : w.heap.size + 1 ≠ w3.heap.size := by have := hbr3.lt; omega
      obtain ⟨G, hG⟩ : ∃ G, G = w3.heap.size := ⟨_, rfl⟩
      obtain ⟨D, hD⟩ : ∃ D, D = w1.heap.size := ⟨_, rfl⟩
      have hGw : w.heap.size ≤ G := by rw [hG]; exact hw3s
      rw [← hG] at hB5 hGne hDne ⊢
      rw [← hD] at hB3' hDne ⊢
      rw [HYY.out] at hB5
      have HR2 := Lib.hid hr2
      have HWs := Lib.hid hWs
      clear hb0' hA0 hbr0 hm1 hm2 hbB hb3x hm1' hm2' hbr3 hbel3 hw3s hb35 hb5x hm1q hm2q hB3 hb1 hb13 hr1 hr2 hzb1 hG hD hWs hi0 hszY hW
      have hA2 := Lib.hid (h2b)
      go_loopw [32] (fun i wr => ∃ k : Nat, k ≤ bs.length ∧ i = .int .i64 k ∧ Below w.heap.size w wr ∧ Blk wr (w.heap.size + 1) 53 #[.int .i64 0, .int .i64 0, .int .i64 0, .int .i64 0, .int .i64 0, .int .i64 0, .int .i64 0, .int .i64 0, .int .i64 0, .int .i64 0, .int .i64 0, .int .i64 0, .int .i64 0, .int .i64 0, .int .i64 0, .int .i64 0, .bool false, .bool false, .bool false, .bool false, .bool false, .bool false, .bool false, .bool false, .bool false, .bool false, .bool false, .bool false, .bool false, .bool false, .bool false, .bool false] ∧ Blk wr D 50 (arr (pad L)) ∧ Blk wr G 53 (mdA (pad L) (padB (bs.take k))) ∧ Hid (∀ j, j < k → mkC L bs j = true)) (fun i _ => 20 - (intOf i).toNat)
      case atStart => exact ⟨0, Nat.zero_le _, rfl, hbel5, hbr5, hB3', hB5, Lib.hid fun j hj => by omega⟩
      case round =>
        clear hbel5 hbr5 hB3' hB5
        obtain ⟨k, hk, rfl, hbel, hbr, hBD, hBG, HP⟩ := hrel
        by_cases hlt : k < bs.length
        · have hlt' : (k : Int) < (bs.length : Int) := by omega
          have hk16 : k < 16 := by omega
          have hk16' : (k : Int) < 16 := by omega
          obtain ⟨b2, o2, rfl, -, hc2⟩ := boolAt (hA2.out.below hbel) hlt
          have HMK : Hid (mkC L bs k = (!bs[k] || isC L k)) := Lib.hid (by unfold mkC; rw [List.getD_eq_getElem?_getD, List.getElem?_eq_getElem hlt]; rfl)
          have HCD : Hid (isCD (pad L) k = isC L k) := Lib.hid (by rw [isCD_pad HVT.out, if_pos (by have := HLEN.out; omega)])
          have HKL : Hid (k < L.length) := Lib.hid (by have := HLEN.out; omega)
          have hEl : (padB (bs.take k)).length = 16 := padB_len (by rw [List.length_take]; omega)
          have hcG : wr.cell? ⟨G, 16 + k, none⟩ = some (.bool ((padB (bs.take k))[k]'(by omega))) := by rw [hBG.cell (16 + k), mdA_bool _ _ HPL.out k (by omega)]
          have hfG : wr.frozen? ⟨G, 16 + k, none⟩ = false := hBG.free _
          have HSET := Lib.hid (padB_set hlt hk16)
          have hnext : ∀ (wq : World) (b : Bool), b = bs[k] → Blk wq G 53 (mdA (pad L) (padB (bs.take k))) → Blk (wq.setCell ⟨G, 16 + k, none⟩ (.bool b)) G 53 (mdA (pad L) (padB (bs.take (k + 1)))) := fun wq b hb h => by
            have e := h.set (16 + k) (.bool b)
            rw [mdA_set _ _ HPL.out] at e
            have e2 : (padB (bs.take k)).set k b = padB (bs.take (k + 1)) := by rw [hb]; exact HSET.out
            rw [e2] at e
            exact e
          have HNXT := Lib.hid hnext
          have HPJ : Hid (mkC L bs k = true → ∀ j, j < k + 1 → mkC L bs j = true) := Lib.hid (fun h j hj => by
            rcases Nat.lt_or_ge j k with h1 | h1
            · exact HP.out j h1
            · rw [show j = k by omega]; exact h)
          generalize (padB (bs.take k))[k]'_ = y at hcG
          clear hnext hEl
          obtain ⟨m, hm⟩ : ∃ m, m = bs[k] := ⟨_, rfl⟩
          rw [← hm] at hc2 HMK
          have HM := Lib.hid hm
          clear hm
          cases m with
          | false =>
            have HOK := Lib.hid (HPJ.out (by rw [HMK.out]; rfl))
            go_wp2_with fail
            go_roundw
            case rel => exact ⟨k + 1, by omega, by go_num, hbel.setCell hGw _, hbr.off hGne _, hBD.off hDne _, HNXT.out _ false HM.out hBG, HOK⟩
            case measure => simp [intOf]; omega
          | true =>
            have HIC := Lib.hid (fun w => isCorner_any (pad L) HPL.out k hk16 w)
            rw [HCD.out] at HIC
            obtain ⟨q, hq⟩ : ∃ q, q = isC L k := ⟨_, rfl⟩
            rw [← hq] at HIC HMK
            clear hq
            cases q with
            | false =>
              have HF : Hid (vmk L bs = false) := Lib.hid (vmk_badC HKL.out HMK.out)
              replace HZN := Lib.hid (HZN.out HF.out)
              go_wp2_with (first
                | (refine wpList_load_row_g rfl 50 (.tmp 4) rfl D rfl 50 (arr (pad L)) (0, 0) _ hBD hu rfl hi16 ?_)
                | (go_at_call 66; refine (HIC.out _).mono ?_; rintro e w9 ⟨rfl, hb9⟩; have hbr9 := hbr.below hb9 hbr.lt)
                | (refine wpList_store_row rfl 53 (.tmp 2) (.tmp 44) rfl (w.heap.size + 1) rfl #[.int .i64 0, .int .i64 0, .int .i64 0, .int .i64 0, .int .i64 0, .int .i64 0, .int .i64 0, .int .i64 0, .int .i64 0, .int .i64 0, .int .i64 0, .int .i64 0, .int .i64 0, .int .i64 0, .int .i64 0, .int .i64 0, .bool false, .bool false, .bool false, .bool false, .bool false, .bool false, .bool false, .bool false, .bool false, .bool false, .bool false, .bool false, .bool false, .bool false, .bool false, .bool false] rfl 53 _ hbr9 hiZ rfl honeZ ?_))
              refine bodyPost_ret (results_cell_tmp rfl _ _ (w.heap.size + 1) 53 #[.int .i64 0, .int .i64 0, .int .i64 0, .int .i64 0, .int .i64 0, .int .i64 0, .int .i64 0, .int .i64 0, .int .i64 0, .int .i64 0, .int .i64 0, .int .i64 0, .int .i64 0, .int .i64 0, .int .i64 0, .int .i64 0, .bool false, .bool false, .bool false, .bool false, .bool false, .bool false, .bool false, .bool false, .bool false, .bool false, .bool false, .bool false, .bool false, .bool false, .bool false, .bool false] (0, 0) _ rfl hbr9.row hum rfl hiZ) rfl ?_
              rw [HF.out, HZN.out.1, HZN.out.2]
              exact ⟨rfl, below_setRow' (hbel.trans (hb9.mono hbel.size)) (by omega) _⟩
            | true =>
              have HOK := Lib.hid (HPJ.out (by rw [HMK.out]; rfl))
              go_wp2_with (first
                | (refine wpList_load_row_g rfl 50 (.tmp 4) rfl D rfl 50 (arr (pad L)) (0, 0) _ hBD hu rfl hi16 ?_)
                | (go_at_call 66; refine (HIC.out _).mono ?_; rintro e w9 ⟨rfl, hb9⟩; have hcG9 : w9.cell? ⟨G, 16 + k, none⟩ = some (.bool y) := (hb9.cell (p := ⟨G, 16 + k, none⟩) hBG.lt).trans hcG; have hfG9 : w9.frozen? ⟨G, 16 + k, none⟩ = false := (hBG.below hb9 hBG.lt).free _; have hbr9 := hbr.below hb9 hbr.lt; have hBD9 := hBD.below hb9 hBD.lt; have hBG9 := hBG.below hb9 hBG.lt))
              go_roundw
              case rel => exact ⟨k + 1, by omega, by go_num, (hbel.trans (hb9.mono hbel.size)).setCell hGw _, hbr9.off hGne _, hBD9.off hDne _, HNXT.out _ true HM.out hBG9, HOK⟩
              case measure => simp [intOf]; omega
        · obtain rfl : k = bs.length := by omega
          have HV : Hid (vmk L bs = true) := Lib.hid (vmk_iff.2 ⟨HVT.out, HLEN.out, fun i hi => HP.out i (by have := HLEN.out; omega)⟩)
          have HMD := Lib.hid (md_yes HV.out)
          rw [List.take_of_length_le (Nat.le_refl _)] at hBG
          have hiQ := HIY.out bs.length hbl16
          rw [List.take_of_length_le (Nat.le_refl _)] at hiQ
          obtain ⟨Q, hQ⟩ : ∃ Q, Q = mdA (pad L) (padB bs) := ⟨_, rfl⟩
          have honeQ : ∀ v ∈ Q.toList, v.oneCell' = true := by rw [hQ]; exact mdA_one _ _
          rw [← hQ] at hBG hiQ
          have hszQ : Q.size = (#[.int .i64 0, .int .i64 0, .int .i64 0, .int .i64 0, .int .i64 0, .int .i64 0, .int .i64 0, .int .i64 0, .int .i64 0, .int .i64 0, .int .i64 0, .int .i64 0, .int .i64 0, .int .i64 0, .int .i64 0, .int .i64 0, .bool false, .bool false, .bool false, .bool false, .bool false, .bool false, .bool false, .bool false, .bool false, .bool false, .bool false, .bool false, .bool false, .bool false, .bool false, .bool false] : Array Value).size := by rw [hiZ] at hiQ; exact (Option.some.inj hiQ).symm
          have HQ := Lib.hid hQ
          clear hQ
          go_wp2_with (first
            | (refine wpList_load_row rfl 53 (.tmp 6) rfl G rfl 53 Q (0, 0) _ hBG hum rfl hiQ ?_)
            | (refine wpList_store_row rfl 53 (.tmp 2) (.tmp 50) rfl (w.heap.size + 1) rfl Q rfl 53 _ hbr hiQ hszQ honeQ ?_))
          refine bodyPost_ret (results_cell_tmp rfl _ _ (w.heap.size + 1) 53 Q (0, 0) _ rfl hbr.row hum rfl hiQ) rfl ?_
          rw [HV.out, HMD.out.1, HMD.out.2, ← HQ.out]
          exact ⟨rfl, below_setRow' hbel (by omega) _⟩
    · have hne : ((bs.length : Int) != (L.length : Int)) = true := by simpa using fun h => hlen (by omega)
      have HF : Hid (vmk L bs = false) := Lib.hid (vmk_badN hlen)
      replace HZN := Lib.hid (HZN.out HF.out)
      clear hlen
      go_enter Try.func40, Try.ntmps40
      go_wp2_with (first
        | (go_at_call 52; refine HDO2.out.mono ?_; rintro e w1 ⟨rfl, hb1⟩; have hzb1 := hb1.size)
        | (refine wpList_store_row rfl 50 (.tmp 4) (.tmp 13) rfl w1.heap.size rfl (arr (pad L)) rfl 50 (arr (List.replicate 16 0)) (Blk.new w1 _ _) hi16 hsz (arr_one _) ?_; have hB3 := (Blk.new w1 50 (arr (List.replicate 16 0))).row (vs := arr (pad L)); have hb13 : Below w1.heap.size w1 ((w1.alloc (.cells (arr (List.replicate 16 0)) 50)).setRow w1.heap.size (arr (pad L))) := below_setRow' ((Below.refl _ _).alloc (Nat.le_refl _) _) (Nat.le_refl _) _; obtain ⟨w3, hw3⟩ : ∃ w3, w3 = (w1.alloc (.cells (#[.int .i64 0, .int .i64 0, .int .i64 0, .int .i64 0, .int .i64 0, .int .i64 0, .int .i64 0, .int .i64 0, .int .i64 0, .int .i64 0, .int .i64 0, .int .i64 0, .int .i64 0, .int .i64 0, .int .i64 0, .int .i64 0]) 50)).setRow w1.heap.size (arr (pad L)) := ⟨_, rfl⟩; rw [← hw3]; replace hB3 : Blk w3 w1.heap.size 50 (arr (pad L)) := hw3 ▸ hB3; replace hb13 : Below w1.heap.size w1 w3 := hw3 ▸ hb13; clear hw3; have hbB := hb1.trans (hb13.mono hzb1); have hb3x := hb0'.below hbB hb0'.lt; have hm1' : w3.cell? ⟨w.heap.size, 0, none⟩ = some (.slice a1 L.length c1) := hb3x.cell 0; have hm2' : w3.cell? ⟨w.heap.size, 1, none⟩ = some (.slice a2 bs.length c2) := hb3x.cell 1; have hbr3 := hbr0.below hbB hbr0.lt; have hbel3 := hA0.trans (hbB.mono (by omega)); have hw3s := hbel3.size)
        | (refine wpList_store_row rfl 53 (.tmp 2) (.tmp 26) rfl (w.heap.size + 1) rfl #[.int .i64 0, .int .i64 0, .int .i64 0, .int .i64 0, .int .i64 0, .int .i64 0, .int .i64 0, .int .i64 0, .int .i64 0, .int .i64 0, .int .i64 0, .int .i64 0, .int .i64 0, .int .i64 0, .int .i64 0, .int .i64 0, .bool false, .bool false, .bool false, .bool false, .bool false, .bool false, .bool false, .bool false, .bool false, .bool false, .bool false, .bool false, .bool false, .bool false, .bool false, .bool false] rfl 53 _ hbr3 hiZ rfl honeZ ?_))
      refine bodyPost_ret (results_cell_tmp rfl _ _ (w.heap.size + 1) 53 #[.int .i64 0, .int .i64 0, .int .i64 0, .int .i64 0, .int .i64 0, .int .i64 0, .int .i64 0, .int .i64 0, .int .i64 0, .int .i64 0, .int .i64 0, .int .i64 0, .int .i64 0, .int .i64 0, .int .i64 0, .int .i64 0, .bool false, .bool false, .bool false, .bool false, .bool false, .bool false, .bool false, .bool false, .bool false, .bool false, .bool false, .bool false, .bool false, .bool false, .bool false, .bool false] (0, 0) _ rfl hbr3.row hum rfl hiZ) rfl ?_
      rw [HF.out, HZN.out.1, HZN.out.2]
      exact ⟨rfl, below_setRow' hbel3 (by omega) _⟩
end Go.Proofs.Ytbbbfaollcklkaa
