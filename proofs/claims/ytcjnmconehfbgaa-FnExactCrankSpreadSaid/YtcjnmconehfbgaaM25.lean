/-
  Mathematics: squares cut off and put back; doubled parts.
-/
import Derived.Test.YtcjnmconehfbgaaM17
namespace Go.Proofs.Ytcjnmconehfbgaa
namespace NP
def sqRT (L : List Int) (d : Int) (k : Nat) : List Int := ((List.range k).filter fun i => decide (d < L.getD i 0)).map fun i => L.getD i 0 - d
theorem sqRT_succ (L : List Int) (d : Int) (k : Nat) : sqRT L d (k + 1) = sqRT L d k ++ if d < L.getD k 0 then [L.getD k 0 - d] else [] := by
  unfold sqRT
  rw [List.range_succ, List.filter_append, List.map_append]
  obtain ⟨f, hf⟩ : ∃ f : Nat → Int, ∀ i, L.getD i 0 = f i := ⟨_, fun _ => rfl⟩
  simp only [hf]
  congr 1
  by_cases h : d < f k <;> simp [h]
theorem sqRT_len (L : List Int) (d : Int) (k : Nat) : (sqRT L d k).length ≤ k := by
  unfold sqRT
  rw [List.length_map]
  exact Nat.le_trans (List.length_filter_le _ _) (by simp)
def sqR (L : List Int) : List Int := sqRT L (durS L) (durS L)
def sqB (L : List Int) : List Int := L.drop (durS L)
def sqRF (L : List Int) : List Int := if valid L then sqR L else []
def sqBF (L : List Int) : List Int := if valid L then sqB L else []
def sqD (L : List Int) : Int := if valid L then (durS L : Int) else 0
theorem sqRF_yes {L : List Int} (h : valid L = true) : sqRF L = sqR L := by simp [sqRF, h]
theorem sqRF_no {L : List Int} (h : valid L = false) : sqRF L = [] := by simp [sqRF, h]
theorem sqBF_yes {L : List Int} (h : valid L = true) : sqBF L = sqB L := by simp [sqBF, h]
theorem sqBF_no {L : List Int} (h : valid L = false) : sqBF L = [] := by simp [sqBF, h]
theorem sqD_yes {L : List Int} (h : valid L = true) : sqD L = (durS L : Int) := by simp [sqD, h]
theorem sqD_no {L : List Int} (h : valid L = false) : sqD L = 0 := by simp [sqD, h]
/-- what stands in the rows of the square, less the square -/
def sqArr (L : List Int) : List Int := (List.range 16).map fun j => if j < durS L then L.getD j 0 - (durS L : Int) else 0
def sqOk (d : Int) (R B : List Int) : Bool := decide (0 ≤ d) && decide (d ≤ 16) && valid R && valid B && decide ((R.length : Int) ≤ d) && decide (B.getD 0 0 ≤ d) && decide (d * d + sumL R + sumL B ≤ 16)
def sqPut (d : Int) (R B : List Int) : List Int := adp (List.replicate d.toNat d) R ++ B
def sqPutF (d : Int) (R B : List Int) : List Int := if sqOk d R B then sqPut d R B else []
theorem sqPutF_yes {d : Int} {R B : List Int} (h : sqOk d R B = true) : sqPutF d R B = sqPut d R B := by simp [sqPutF, h]
theorem sqPutF_no {d : Int} {R B : List Int} (h : sqOk d R B = false) : sqPutF d R B = [] := by simp [sqPutF, h]
theorem sqOk_iff (d : Int) (R B : List Int) : sqOk d R B = true ↔ 0 ≤ d ∧ d ≤ 16 ∧ valid R = true ∧ valid B = true ∧ (R.length : Int) ≤ d ∧ B.getD 0 0 ≤ d ∧ d * d + sumL R + sumL B ≤ 16 := by
  simp [sqOk, and_assoc]

def sqTab (N : List Nat) : Bool :=
  let L := N.map Int.ofNat
  valid (sqR L) && valid (sqB L) && decide (pad (sqR L) = sqArr L) && decide (sqR (conj L) = conj (sqB L)) && decide (sqB (conj L) = conj (sqR L)) && sqOk (durS L) (sqR L) (sqB L) && decide (sqPut (durS L) (sqR L) (sqB L) = L)
set_option maxRecDepth 100000 in
theorem sqTab_all : all16.all sqTab = true := by decide +kernel
theorem sq_facts {L : List Int} (h : valid L = true) : valid (sqR L) = true ∧ valid (sqB L) = true ∧ pad (sqR L) = sqArr L ∧ sqR (conj L) = conj (sqB L) ∧ sqB (conj L) = conj (sqR L) ∧ sqOk (durS L) (sqR L) (sqB L) = true ∧ sqPut (durS L) (sqR L) (sqB L) = L := by
  obtain ⟨N, hN, rfl⟩ := of_all sqTab_all h
  simp only [sqTab, Bool.and_eq_true, decide_eq_true_eq] at hN
  obtain ⟨⟨⟨⟨⟨⟨h1, h2⟩, h3⟩, h4⟩, h5⟩, h6⟩, h7⟩ := hN
  exact ⟨h1, h2, h3, h4, h5, h6, h7⟩
theorem sqRF_len (L : List Int) : (sqRF L).length ≤ 16 := by
  unfold sqRF
  split
  · rename_i h; exact (valid_bd (sq_facts h).1).2.2.2
  · simp
theorem sqBF_len (L : List Int) : (sqBF L).length ≤ 16 := by
  unfold sqBF
  split
  · rename_i h; exact (valid_bd (sq_facts h).2.1).2.2.2
  · simp

/-- the square itself -/
def sqs (n : Nat) : List Int := List.replicate n (n : Int)
theorem sqs_valid {n : Nat} (h : n ≤ 4) : valid (sqs n) = true := by
  match n, h with
  | 0, _ => rfl
  | 1, _ => rfl
  | 2, _ => rfl
  | 3, _ => rfl
  | 4, _ => rfl
theorem sumL_rep (n : Nat) (x : Int) : sumL (List.replicate n x) = (n : Int) * x := by
  induction n with
  | zero => simp [sumL]
  | succ n ih =>
    rw [List.replicate_succ]
    show x + sumL _ = _
    rw [ih, Int.natCast_add, Int.add_mul]
    simp
    omega
theorem sqs_sum (n : Nat) : sumL (sqs n) = (n : Int) * (n : Int) := sumL_rep n n
theorem sqs_getD (n i : Nat) : (sqs n).getD i 0 = if i < n then (n : Int) else 0 := by
  unfold sqs
  rw [List.getD_eq_getElem?_getD, List.getElem?_replicate]
  split <;> rfl
theorem sq4 {n : Nat} {x : Int} (hx : 0 ≤ x) (h : (n : Int) * (n : Int) + x ≤ 16) : n ≤ 4 := by
  rcases Nat.lt_or_ge 4 n with h1 | h1
  · have h2 : (5 : Int) * 5 ≤ (n : Int) * (n : Int) := Int.mul_le_mul (by omega) (by omega) (by omega) (by omega)
    omega
  · exact h1
theorem sq_put {n : Nat} {R B : List Int} (h : sqOk n R B = true) :
    two (sqs n) R = true ∧ two (adp (sqs n) R) B = true ∧ sqPut n R B = adp (sqs n) R ++ B ∧ mono (adp (sqs n) R ++ B) ∧ (adp (sqs n) R).length = n ∧ (∀ x ∈ adp (sqs n) R ++ B, 1 ≤ x) ∧ valid (sqPut n R B) = true := by
  obtain ⟨h0, h16, hvR, hvB, hRl, hB0, hs⟩ := (sqOk_iff _ _ _).1 h
  have bR := valid_bd hvR
  have bB := valid_bd hvB
  have h4 : n ≤ 4 := sq4 (x := sumL R + sumL B) (by omega) (by omega)
  have hv := sqs_valid h4
  have hss := sqs_sum n
  have t1 : two (sqs n) R = true := by simp [two, hv, hvR, hss]; omega
  have hvP := valid_adp t1
  have hsP := adp_sum (sqs n) R
  have t2 : two (adp (sqs n) R) B = true := by simp [two, hvP, hvB, hsP, hss]; omega
  have hlP : (adp (sqs n) R).length = n := by rw [adp_len]; simp [sqs]; omega
  have hge : ∀ x ∈ adp (sqs n) R, (n : Int) ≤ x := fun x hx => by
    obtain ⟨i, hi, rfl⟩ := List.getElem_of_mem hx
    have e := adp_getD (sqs n) R i
    rw [getD_lt hi, sqs_getD, if_pos (by omega)] at e
    have := (getD_nn hvR i).1
    omega
  have hle : ∀ y ∈ B, y ≤ (n : Int) := fun y hy => by
    have := head_ge hvB y hy
    have e : B.headD 0 = B.getD 0 0 := by cases B <;> rfl
    omega
  have hm : mono (adp (sqs n) R ++ B) := mono_append (mono_valid hvP) (mono_valid hvB) fun x hx y hy => by
    have := hge x hx
    have := hle y hy
    omega
  have h1 : ∀ x ∈ adp (sqs n) R ++ B, 1 ≤ x := fun x hx => by
    rcases List.mem_append.1 hx with hx | hx
    · exact valid_ge1 hvP x hx
    · exact valid_ge1 hvB x hx
  have hput : sqPut n R B = adp (sqs n) R ++ B := by unfold sqPut sqs; simp
  refine ⟨t1, t2, hput, hm, hlP, h1, ?_⟩
  rw [hput]
  exact valid_mono hm h1 (by rw [sumL_append, hsP, hss]; omega)
theorem sq_um {n : Nat} {R B : List Int} (h : sqOk n R B = true) : (um (fun i => (adp (sqs n) R).getD i 0) (fun i => B.getD i 0) 16).1 = pad (sqPut n R B) := by
  obtain ⟨_, t2, hp, hm, _, h1, _⟩ := sq_put h
  rw [hp]
  exact um_end t2 hm (fun k => eqc_append k _ _) (List.length_append) h1
theorem getD_app (A B : List Int) (j : Nat) : (A ++ B).getD j 0 = if j < A.length then A.getD j 0 else B.getD (j - A.length) 0 := by
  rw [List.getD_eq_getElem?_getD, List.getElem?_append]
  split <;> rw [List.getD_eq_getElem?_getD]
theorem sq_back {n : Nat} {R B : List Int} (h : sqOk n R B = true) : durS (sqPut n R B) = n ∧ sqR (sqPut n R B) = R ∧ sqB (sqPut n R B) = B := by
  obtain ⟨t1, t2, hp, hm, hl, h1, hv⟩ := sq_put h
  obtain ⟨h0, h16, hvR, hvB, hRl, hB0, hs⟩ := (sqOk_iff _ _ _).1 h
  have hg : ∀ j, j < n → (sqPut n R B).getD j 0 = (n : Int) + R.getD j 0 := fun j hj => by
    rw [hp, getD_app, if_pos (by omega), adp_getD, sqs_getD, if_pos hj]
  have hd : durS (sqPut n R B) = n := durS_unique (fun j hj => by rw [hg j hj]; have := (getD_nn hvR j).1; omega) (by
    rw [hp, getD_app, if_neg (by omega), hl, Nat.sub_self]
    omega)
  have hRt : ∀ k, k ≤ n → sqRT (sqPut n R B) (n : Int) k = R.take k := by
    intro k
    induction k with
    | zero => intro _; simp [sqRT]
    | succ k ih =>
      intro hk
      rw [sqRT_succ, ih (by omega), hg k (by omega)]
      by_cases hkR : k < R.length
      · have := getD_pos hvR hkR
        rw [if_pos (by omega), List.take_succ_eq_append_getElem hkR, getD_lt hkR]
        congr 2
        omega
      · rw [getD_ge (L := R) (by omega), if_neg (by omega), List.append_nil, List.take_of_length_le (by omega), List.take_of_length_le (by omega)]
  refine ⟨hd, ?_, ?_⟩
  · unfold sqR
    rw [hd, hRt n (Nat.le_refl _), List.take_of_length_le (by omega)]
  · unfold sqB
    rw [hd, hp, List.drop_append, List.drop_eq_nil_of_le (by omega), hl, Nat.sub_self]
    rfl
theorem sqPutF_len (d : Int) (R B : List Int) : (sqPutF d R B).length ≤ 16 := by
  unfold sqPutF
  split
  · rename_i h
    obtain ⟨n, rfl⟩ := Int.eq_ofNat_of_zero_le ((sqOk_iff _ _ _).1 h).1
    exact (valid_bd (sq_put h).2.2.2.2.2.2).2.2.2
  · simp

/-- doubled parts -/
def dbl (P : List Int) : List Int := P.map fun x => 2 * x
theorem adp_self (P : List Int) : adp P P = dbl P := by
  apply List.ext_getElem
  · simp [adp, dbl]
  · intro i h1 h2
    have hi : i < P.length := by simpa [dbl] using h2
    simp [adp, dbl, List.getElem?_eq_getElem hi]
    omega
theorem two_self (P : List Int) : two P P = (valid P && decide (2 * sumL P ≤ 16)) := by
  unfold two
  cases valid P <;> simp
  constructor <;> intro h <;> omega
theorem dbl_take (P : List Int) (k : Nat) (h : k < P.length) : dbl (P.take (k + 1)) = dbl (P.take k) ++ [2 * P[k]] := by
  unfold dbl
  rw [List.take_succ_eq_append_getElem h, List.map_append]
  rfl
end NP
end Go.Proofs.Ytcjnmconehfbgaa
