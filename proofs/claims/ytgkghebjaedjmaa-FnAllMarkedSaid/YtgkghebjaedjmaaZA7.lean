/-
  Walks: the laws' own helpers on lists of marks and on marked parts: copied, compared, marked, held, measured. A region that draws its order and ends in a store. Walks of the model: all marks of parts. Walks: the laws' own helpers on lists of lists: compared (eqIntSS, equalLists). Walks: all parts listed (the model's list). Walks: all parts listed (the model's list), whole. Walks of the program: the parts with a sum of which something holds, where parts are listed. Walks of the program: all parts with a sum. Walks of the model: all parts with a sum. Walks of the model: all marked parts with a sum. Walks: a bent list of parts: what it leaves alone. Walks of the model: marked parts: valid, split.
-/
import Derived.Test.YtgkghebjaedjmaaZA1
import Derived.Test.YtgkghebjaedjmaaZA2
import Derived.Test.YtgkghebjaedjmaaZA3
import Derived.Test.YtgkghebjaedjmaaZA4
import Derived.Test.YtgkghebjaedjmaaZA5
import Derived.Test.YtgkghebjaedjmaaZA6
import Derived.Deep.MidRow
import Derived.RegionTactic
import Derived.Deep.RegionHeld3
import Derived.Deep.QuietTactic
import Derived.BigQuiet
namespace Go.Proofs.Ytgkghebjaedjmaa
open Go.RowKit NP
set_option maxRecDepth 100000
set_option linter.unusedVariables false
set_option linter.unusedSimpArgs false
theorem boolRd {w : World} {B : Nat} {a : Option Addr} {bs : List Bool} (h : Rd w B a (bls bs)) {k : Nat} (hk : k < bs.length) : ∃ b o, a = some ⟨b, o, none⟩ ∧ b < B ∧ w.cell? ⟨b, o + k, none⟩ = some (.bool bs[k]) := by
  obtain ⟨b, o, h1, h2, h3⟩ := h (fun e => by
    have h0 : bs.length = 0 := by simpa using congrArg List.length e
    omega)
  exact ⟨b, o, h1, h2, h3 k _ (by simp [hk])⟩
theorem Blk.rangeQQ {w : World} {g : Nat} {t : TypeId} {vs : List Value} (h : Blk w g t vs.toArray) : w.rangeAt g 0 vs := fun j v hv => by
  rw [Nat.zero_add, h.cell j]; simpa using hv
theorem Blk.aside {w w' : World} {g lo hi : Nat} {t : TypeId} {cs : Array Value} (h : Blk w g t cs) (ha : Aside lo hi w w') (hd : g < lo ∨ hi ≤ g) : Blk w' g t cs := (ha.2 g hd h.lt).trans h
theorem rd_bools {w : World} {x : Addr} {l c : Nat} {fB : Nat → Bool} (hl : l ≤ c) (hc : ∀ i, i < c → w.cell? (x.add i) = some (.bool (fB i))) : Rd w w.heap.size (some x) (bls ((List.range l).map fB)) := fun hne => by
  have h0 : 0 < l := by
    rcases Nat.eq_zero_or_pos l with h0 | h0
    · subst h0; simp at hne
    · exact h0
  obtain ⟨b, o, spot⟩ := x
  have hc0 := hc 0 (by omega)
  have hspot : spot = none := by simpa [Addr.add] using World.cell?_spot hc0
  subst hspot
  have hlt := World.block_lt_of_cell? _ _ hc0
  refine ⟨b, o, rfl, by simpa [Addr.add] using hlt, fun j v hv => ?_⟩
  have hj : j < l := by
    have := (List.getElem?_eq_some_iff.1 hv).1
    simpa using this
  have h1 := hc j (by omega)
  rw [Addr.add_lit] at h1
  rw [h1]
  simpa [hj] using hv
theorem fill_setB {L : List Bool} {k : Nat} (hk : k < L.length) : (bls (L.take k) ++ List.replicate (L.length - k) (Value.bool false)).set k (.bool L[k]) = bls (L.take (k + 1)) ++ List.replicate (L.length - (k + 1)) (Value.bool false) := by
  rw [List.set_append_right _ _ (by simp; omega), List.length_map, List.length_take, Nat.min_eq_left (by omega), Nat.sub_self, show L.length - k = (L.length - (k + 1)) + 1 by omega, List.replicate_succ, List.set_cons_zero, List.take_succ_eq_append_getElem hk, bls, bls, List.map_append, List.append_assoc]
  rfl
theorem eqBoolS_same (a b : Option Addr) (ca cb Ba Bb : Nat) (L : List Bool) (w : World) (h : Rd w Ba a (bls L)) (hm : Rd w Bb b (bls L)) (hl : L.length ≤ 4611686018427387904) :
    Calls Try.prog 77 #[.slice a L.length ca, .slice b L.length cb] w fun e w' => e = .returned (.bool true) ∧ Dr w w' := by
  have hne : ((L.length : Int) != (L.length : Int)) = false := by simp
  go_enter Try.func77, Try.ntmps77
  go_wp2
  clear hne
  go_loopw [5] (fun i wr => ∃ k : Nat, k ≤ L.length ∧ i = .int .i64 k ∧ Dr w wr) (fun i _ => L.length - (intOf i).toNat)
  case atStart => exact ⟨0, Nat.zero_le _, rfl, Dr.refl _⟩
  case round =>
    obtain ⟨k, hk, rfl, hdr⟩ := hrel
    by_cases hlt : k < L.length
    · obtain ⟨b1, o1, rfl, -, hc1⟩ := boolRd (h.dr hdr) hlt
      obtain ⟨b2, o2, rfl, -, hc2⟩ := boolRd (hm.dr hdr) hlt
      have hlt' : (k : Int) < (L.length : Int) := by omega
      generalize L[k] = x at *
      have hx' : (x != x) = false := by simp
      go_wp2_with fail
      go_quiet (fail)
      go_wp2
      go_roundw
      case rel => exact ⟨k + 1, by omega, by go_num, hdr.drewN _⟩
      case measure => simp [intOf]; omega
    · obtain rfl : k = L.length := by omega
      go_wp2
      go_ret
      exact ⟨rfl, hdr⟩
/-- the marks set from m on -/
def mkB (m : Int) (n : Nat) : List Bool := (List.range n).map fun (j : Nat) => ((m + (j : Int)) % 3 == 0)
theorem mkB_len (m : Int) (n : Nat) : (mkB m n).length = n := by simp [mkB]
theorem mkB_get (m : Int) (n j : Nat) (h : j < (mkB m n).length) : (mkB m n)[j] = ((m + (j : Int)) % 3 == 0) := by simp [mkB]
theorem markB_set {L : List Bool} {m : Int} {k : Nat} (hk : k < L.length) : (bls (mkB m k ++ L.drop k)).set k (.bool ((m + (k : Int)) % 3 == 0)) = bls (mkB m (k + 1) ++ L.drop (k + 1)) := by
  have e1 : (mkB m k).length = k := mkB_len m k
  rw [List.drop_eq_getElem_cons hk, bls, List.map_append, List.map_cons, List.set_append_right _ _ (by simp [e1]), List.length_map, e1, Nat.sub_self, List.set_cons_zero]
  simp [bls, mkB, List.range_succ]
theorem markBoolS_any (a : Option Addr) (c lo hi : Nat) (m : Int) (L : List Bool) (w : World) (h : Own w lo hi 4 (.slice a L.length c) (bls L)) (hm : 0 ≤ m) (hm2 : m ≤ 1099511627776) (hl : L.length ≤ 1099511627776) :
    Calls Try.prog 47 #[.slice a L.length c, .int .i64 m] w fun e w' => e = .returned (.int .i64 (m + (L.length : Int))) ∧ Own w' lo hi 4 (.slice a L.length c) (bls (mkB m L.length)) ∧ w.grownBy w' (Value.slice a L.length c).ownBlock := by
  go_enter Try.func47, Try.ntmps47
  go_wp2
  go_loopw [1, 5] (fun kk i wr => ∃ k : Nat, k ≤ L.length ∧ i = .int .i64 k ∧ kk = .int .i64 (m + (k : Int)) ∧ w.grownBy wr (Value.slice a L.length c).ownBlock ∧ Own wr lo hi 4 (.slice a L.length c) (bls (mkB m k ++ L.drop k))) (fun _ i _ => L.length - (intOf i).toNat)
  case atStart => exact ⟨0, Nat.zero_le _, rfl, by simp, World.grownBy.refl _ _, by simpa [mkB] using h⟩
  case round =>
    obtain ⟨k, hk, rfl, rfl, hbr, hor⟩ := hrel
    clear h
    by_cases hlt : k < L.length
    · obtain ⟨g, u, rfl, hlo, hhi, hc2, hf2⟩ := hor.spot (k := k) (by simp [mkB_len]; omega)
      have HF := Lib.hid (markB_set (m := m) hlt)
      have HO := Lib.hid hor
      have HR := Lib.hid hbr
      have hmk : 0 ≤ m + (k : Int) := by omega
      clear hor hbr
      go_wp2
      go_roundw
      case rel =>
        have e := HO.out.set k (.bool ((m + (k : Int)) % 3 == 0))
        have hbr := HR.out
        rw [HF.out] at e
        refine ⟨k + 1, by omega, by go_num, by go_num, ?_, e⟩
        exact ⟨hbr.os, hbr.tape, hbr.output, by simpa [World.setCell] using hbr.size, fun q hq hne => (Below.heap_setCell wr _ _ q (by rintro rfl; exact hne (by simp [Value.ownBlock]))).trans (hbr.block q hq hne)⟩
      case measure => simp [intOf]; omega
    · obtain rfl : k = L.length := by omega
      go_wp2
      go_ret
      exact ⟨rfl, by simpa using hor, hbr⟩
theorem heldBoolS_any (a : Option Addr) (c B n : Nat) (m : Int) (w : World) (h : Rd w B a (bls (mkB m n))) (hm : 0 ≤ m) (hm2 : m ≤ 1099511627776) (hl : n ≤ 1099511627776) :
    Calls Try.prog 49 #[.slice a n c, .int .i64 m] w fun e w' => e = .returned (.int .i64 (m + (n : Int))) ∧ w = w' := by
  have hn : (mkB m n).length = n := mkB_len m n
  have HN := Lib.hid hn
  clear hn
  go_enter Try.func49, Try.ntmps49
  go_wp2
  go_loop [1, 5] (fun kk i => ∃ k : Nat, k ≤ n ∧ i = .int .i64 k ∧ kk = .int .i64 (m + (k : Int))) (fun _ i => n - (intOf i).toNat)
  case atStart => exact ⟨0, Nat.zero_le _, rfl, by simp⟩
  case round =>
    obtain ⟨k, hk, rfl, rfl⟩ := hrel
    by_cases hlt : k < n
    · obtain ⟨b1, o1, rfl, -, hc1⟩ := boolRd h (k := k) (by rw [HN.out]; exact hlt)
      rw [mkB_get] at hc1
      have hmk : 0 ≤ m + (k : Int) := by omega
      have hbb : (((m + (k : Int)) % 3 == 0) != ((m + (k : Int)) % 3 == 0)) = false := by simp
      go_wp2
      go_round
      case rel => exact ⟨k + 1, by omega, by go_num, by go_num⟩
      case measure => simp [intOf]; omega
    · obtain rfl : k = n := by omega
      go_wp2
      go_ret
      exact ⟨rfl, rfl⟩
set_option maxHeartbeats 1000000 in
theorem eqMarked_same (a1 a2 b1 b2 : Option Addr) (ca1 ca2 cb1 cb2 A1 A2 B1 B2 : Nat) (L : List Int) (bs : List Bool) (w : World) (h1 : Rd w A1 a1 (ints L)) (h2 : Rd w A2 a2 (bls bs)) (k1 : Rd w B1 b1 (ints L)) (k2 : Rd w B2 b2 (bls bs)) (hA1 : A1 ≤ w.heap.size) (hA2 : A2 ≤ w.heap.size) (hB1 : B1 ≤ w.heap.size) (hB2 : B2 ≤ w.heap.size) (hl1 : L.length ≤ 4611686018427387904) (hl2 : bs.length ≤ 4611686018427387904) :
    Calls Try.prog 45 #[.agg #[.slice a1 L.length ca1, .slice a2 bs.length ca2], .agg #[.slice b1 L.length cb1, .slice b2 bs.length cb2]] w fun e w' => e = .returned (.bool true) ∧ Below w.heap.size w w' := by
  have hA0 : Below w.heap.size w ((w.alloc (.cells #[.slice a1 L.length ca1, .slice a2 bs.length ca2] 33)).alloc (.cells #[.slice b1 L.length cb1, .slice b2 bs.length cb2] 33)) := ((Below.refl _ _).alloc (Nat.le_refl _) _).alloc (by simp) _
  have hx0 := (Blk.new w 33 #[.slice a1 L.length ca1, .slice a2 bs.length ca2]).alloc (.cells #[.slice b1 L.length cb1, .slice b2 bs.length cb2] 33)
  have hy0 := Blk.new (w.alloc (.cells #[.slice a1 L.length ca1, .slice a2 bs.length ca2] 33)) 33 #[.slice b1 L.length cb1, .slice b2 bs.length cb2]
  rw [World.size_alloc] at hy0
  obtain ⟨W, hW⟩ : ∃ W, (w.alloc (.cells #[.slice a1 L.length ca1, .slice a2 bs.length ca2] 33)).alloc (.cells #[.slice b1 L.length cb1, .slice b2 bs.length cb2] 33) = W := ⟨_, rfl⟩
  rw [hW] at hA0 hx0 hy0
  have m1 : W.cell? ⟨w.heap.size, 0, none⟩ = some (.slice a1 L.length ca1) := hx0.cell 0
  have m2 : W.cell? ⟨w.heap.size, 1, none⟩ = some (.slice a2 bs.length ca2) := hx0.cell 1
  have m3 : W.cell? ⟨w.heap.size + 1, 0, none⟩ = some (.slice b1 L.length cb1) := hy0.cell 0
  have m4 : W.cell? ⟨w.heap.size + 1, 1, none⟩ = some (.slice b2 bs.length cb2) := hy0.cell 1
  have H1 := Lib.hid ((h1.more hA1).below hA0)
  have K1 := Lib.hid ((k1.more hB1).below hA0)
  have H2 := Lib.hid ((h2.more hA2).below hA0)
  have K2 := Lib.hid ((k2.more hB2).below hA0)
  clear h1 h2 k1 k2 hx0 hy0
  go_enter Try.func45, Try.ntmps45
  go_wp2_with (first
    | (go_at_call 37; refine (eqIntS_same a1 b1 ca1 cb1 _ _ L W H1.out K1.out hl1).mono ?_; rintro e w1 ⟨rfl, n1, rfl⟩)
    | (go_at_call 77; refine (eqBoolS_same a2 b2 ca2 cb2 _ _ bs _ (H2.out.dr (Dr.n W n1)) (K2.out.dr (Dr.n W n1)) hl2).mono ?_; rintro e w2 ⟨rfl, hd2⟩))
  go_ret
  exact ⟨rfl, (hA0.trans ((Dr.n W n1).below _)).trans (hd2.below _)⟩
end Go.Proofs.Ytgkghebjaedjmaa
namespace Go.Proofs.Ytgkghebjaedjmaa
open Go.RowKit
set_option linter.unusedVariables false
section
variable {P : Program} {ops : Array Oper} {Q : Exit → Act → World → Prop}
/-- all but the last yield their values (vs) in whatever world of the kind S; the last one stores -/
theorem wp_region_store {id : Nat} {a : Act} {w : World} (zl : List Nat) (vs : List Value) (S : World → Prop) (az : Act) (hm : P.follows .mixedOrders = true) (hS : ∀ y, Dr w y → S y) (haz : putsOfG ops 0 vs a = az)
    (hok : regOkG .any ops vs.length = true) (hup : regUpG .any ops vs.length = true) (hzl : List.range vs.length = zl) (hsz : ops.size = vs.length + 1)
    (hr1 : Region.ready .any ops (Array.replicate vs.length true ++ Array.replicate 1 false) = [vs.length]) (hr2 : Region.ready .any ops ((Array.replicate vs.length true ++ Array.replicate 1 false).setIfInBounds vs.length true) = [])
    (o : Oper) (ho : ops[vs.length]? = some o) (hg : o.guard = none) (hd : o.dst = none) (ty : TypeId) (x y : Operand) (hop : o.op = .store ty x y) (p : Addr) (v : Value) (hx : az.eval x = .pointer (some p)) (hy : az.eval y = v)
    (hrun : ∀ w', S w' → (storeVar ty p v).run P w' = .ok () (w'.setCell p v)) (hstep : StepsG P ops S az zl) (hrest : ∀ w', S w' → Q .normal az (w'.setCell p v)) : (Code.region id ops true).wp P Q a w := by
  refine wp_region_vals_rest zl vs S az hm hS haz hok hup hzl hstep fun w' hw => ?_
  rw [hsz, show vs.length + 1 - vs.length = 0 + 1 from by omega]
  refine wpAny_ready hr1 (by simp) ?_
  refine AllReady.cons ho (fun K hK => ?_) AllReady.nil
  rw [if_pos (by simp [Region.wanted, hg])]
  simp only [Oper.wp, execOp, hop, hx, hy, Instr.storeAt, Instr.sureAddr, Sem.run_bind, Sem.run_pure, Result.andThen_ok, hrun w' hw, Oper.upon]
  refine hK _ _ (wpAny_done hr2 ?_ _)
  rw [hd]
  exact hrest w' hw
end
end Go.Proofs.Ytgkghebjaedjmaa
namespace Go.Proofs.Ytgkghebjaedjmaa
open Go.RowKit NP
set_option maxRecDepth 100000
set_option linter.unusedVariables false
set_option linter.unusedSimpArgs false
theorem T_mkd2 : (Try.prog.info? 33).map (fun i => (i.zero, i.size, i.bytes)) = some (some (.agg #[.slice none 0 0, .slice none 0 0]), 2, 48) := by kernel_rfl
theorem T_boolC : (Try.prog.info? 4).map (fun i => (i.zero, i.size, i.bytes)) = some (some (.bool false), 1, 1) := by kernel_rfl
theorem T_intQ : (Try.prog.info? 3).map (fun i => (i.zero, i.size, i.bytes)) = some (some (.int .i64 0), 1, 8) := by kernel_rfl
theorem cell_drS {w w' : World} (h : Dr w w') {p : Addr} {v : Value} (hc : w.cell? p = some v) : w'.cell? p = some v := by obtain ⟨n, rfl⟩ := h; exact hc
theorem froz_drS {w w' : World} (h : Dr w w') {p : Addr} {b : Bool} (hc : w.frozen? p = b) : w'.frozen? p = b := by obtain ⟨n, rfl⟩ := h; exact hc
theorem bls_set (bs : List Bool) (k : Nat) (b : Bool) : (bls bs).set k (.bool b) = bls (bs.set k b) := by simp [bls, List.map_set]
set_option maxHeartbeats 4000000 in
theorem smarked_any (L : List Int) (hv : valid L = true) (a : Option Addr) (c B : Nat) (w : World) (h : Rd w B a (ints L)) (hB : B ≤ w.heap.size) :
    Calls Try.prog 40 #[.slice a L.length c] w fun e w' => ∃ a' c' us iv, e = .returned (.slice a' (amP L).length c') ∧ OwnBag EM w' w.heap.size w'.heap.size 33 2 (.slice a' (amP L).length c') us iv (amP L) ∧ Below w.heap.size w w' := by
  obtain ⟨i22, hi22, hq0, hq1, hq2⟩ := info_parts T_mkd2
  obtain ⟨ib, hib, hbz, hbs, hby⟩ := info_parts T_boolC
  obtain ⟨ii, hii, hii0, hii1, hii2⟩ := info_parts T_intQ
  have hmx : Try.prog.follows .mixedOrders = true := by kernel_rfl
  have hl16 := (valid_bd hv).2.2.2
  have hcl := crn_len L
  obtain ⟨pw, hpw⟩ : ∃ pw : Nat, 2 ^ (crn L).length = pw := ⟨2 ^ (crn L).length, rfl⟩
  have hpf2 := amP_few hv
  rw [amP_len, hpw] at hpf2
  have HPW := Lib.hid (fun w => pow2_any (crn L).length w (by omega))
  rw [hpw] at HPW
  have HAL : Hid ((amP L).length = pw) := Lib.hid (by rw [amP_len, hpw])
  have HAT : Hid (∀ m (h : m < (amP L).length), (amP L)[m] = (L, mkm L m)) := Lib.hid (fun m h => amP_at h)
  have hhB := h.more hB
  clear hpw h
  go_enter Try.func40, Try.ntmps40
  go_wp2_with (go_at_call 70; refine (scorners_any a c w.heap.size L w hhB (Nat.le_refl _) (by omega)).mono ?_; rintro e w1 ⟨aC, cC, rfl, hoC, hb1⟩; have HC := Lib.hid hoC; clear hoC)
  have hz1 := hb1.size
  have he0 := OwnBag.empty (E := EM) w1 33 2
  have hbe : Below w.heap.size w (w1.alloc (.cells #[] 33)) := hb1.alloc hz1 _
  have HC2 := Lib.hid (HC.out.alloc (.cells #[] 33))
  have hR2 := hhB.below hbe
  obtain ⟨g1, hg1⟩ : ∃ g, w1.heap.size = g := ⟨_, rfl⟩
  obtain ⟨W2, hW2⟩ : ∃ W2, w1.alloc (.cells #[] 33) = W2 := ⟨_, rfl⟩
  rw [hW2] at he0 hbe HC2 hR2 ⊢
  rw [hg1] at he0 HC2 ⊢
  have hz2 : g1 < W2.heap.size := he0.le
  have HGQ : Hid (w.heap.size ≤ g1) := Lib.hid (by omega)
  have hhB0 := Lib.hid hhB
  clear hhB hb1 HC hW2
  go_loopw [4, 5] (fun vo vm wr => ∃ (j : Nat) (us : List (List Value)) (iv : List (Nat × Nat)), vm = .int .i64 j ∧ j ≤ pw ∧ OwnBag EM wr g1 wr.heap.size 33 2 vo us iv ((amP L).take j) ∧ Below w.heap.size w wr ∧ Own wr w.heap.size g1 3 (.slice aC (crn L).length cC) (ints (crn L)) ∧ g1 ≤ wr.heap.size) (fun _ vm _ => pw - (intOf vm).toNat)
  case atStart => exact ⟨0, [], [], rfl, Nat.zero_le _, by simpa using he0.more, hbe, HC2.out, by omega⟩
  case round =>
    obtain ⟨j, us, iv, rfl, hj, hbag, hbel, hoC, hgz⟩ := hrel
    obtain ⟨wo, rfl⟩ : ∃ wo : World, wo = wr := ⟨_, rfl⟩
    clear he0 hbe HC2 hR2
    by_cases hlt : j < pw
    · have hlt' : (j : Int) < (pw : Int) := by omega
      have hRr := hhB0.out.below hbel
      go_wp2_with (first
        | (go_at_call 71; refine (HPW.out _).mono ?_; rintro e w' ⟨rfl, rfl⟩)
        | (refine wpList_make_full _ rfl _ _ 31 rfl wo.heap.size 4 ib (.bool false) 1 Try.underlying31 hib hbz hbs .i64 .i64 _ _ L.length rfl rfl rfl rfl (by rw [hby]; omega) (by unfold maxLen; omega) (by simp) ?_; intro w3 hown3 hg3; have hb3 : Below wo.heap.size wo w3 := (Below.refl _ _).grown hg3 (Nat.le_refl _) (by simp); have ho3 : Own w3 wo.heap.size w3.heap.size 4 (.slice (some ⟨wo.heap.size, 0, none⟩) L.length L.length) (List.replicate L.length (Value.bool false)) := ⟨by simpa [toList_madeCells_one, Value.cells] using hown3, fun g hg => (hown3.lt g hg).2, Nat.le_refl _⟩; clear hown3 hg3))
      have hz3 := hb3.size
      have hrep : List.replicate L.length (Value.bool false) = bls (stN L.length ((crn L).take 0) (fun i => bitB j (rnkC L i))) := by simp [stN, bls]
      rw [hrep] at ho3
      obtain ⟨f, hf⟩ : ∃ f, f = fun i => bitB j (rnkC L i) := ⟨_, rfl⟩
      have HF := Lib.hid hf
      rw [← hf] at ho3
      have hoC3 := Lib.hid (hoC.below (hb3.mono hgz))
      have HBAG := Lib.hid hbag
      clear hrep hf hbag
      go_loopw [7] (fun vi wq => ∃ k : Nat, vi = .int .i64 k ∧ k ≤ (crn L).length ∧ Below wo.heap.size wo wq ∧ Own wq wo.heap.size w3.heap.size 4 (.slice (some ⟨wo.heap.size, 0, none⟩) L.length L.length) (bls (stN L.length ((crn L).take k) f)) ∧ w3.heap.size ≤ wq.heap.size) (fun vi _ => (crn L).length - (intOf vi).toNat)
      case atStart => exact ⟨0, rfl, Nat.zero_le _, hb3, ho3, Nat.le_refl _⟩
      case round =>
        obtain ⟨k, rfl, hk, hbq, hoq, hzq⟩ := hrel
        clear ho3
        by_cases hkl : k < (crn L).length
        · have hkl' : (k : Int) < ((crn L).length : Int) := by omega
          obtain ⟨i, hxi, hil, -, -⟩ := crn_rank hkl
          have HSS := Lib.hid (mkmN_step hkl j i hxi)
          have hoCq := hoC.below (hbq.mono hgz)
          obtain ⟨gC, rfl, hcC⟩ := hoCq.read (k := k) (by simpa using hkl)
          have hcC' : wr.cell? ⟨gC, k, none⟩ = some (.int .i64 (i : Int)) := by rw [hcC]; simp [ints, hxi]
          obtain ⟨g9, u9, e9, -, -, hc9, hf9⟩ := hoq.spot (k := i) (by simp [stN_len]; exact hil)
          obtain rfl : wo.heap.size = g9 := by injection e9 with e9; injection e9
          have hil' : (i : Int) < (L.length : Int) := by omega
          obtain ⟨p, hp, hp1⟩ : ∃ p : Nat, 2 ^ k = p ∧ 1 ≤ p := ⟨2 ^ k, rfl, Nat.one_le_two_pow⟩
          have HPK := Lib.hid (fun w => pow2_any k w (by omega))
          rw [hp] at HPK
          obtain ⟨q, hq⟩ : ∃ q : Nat, j / p = q := ⟨_, rfl⟩
          have hqb : bitB j k = (q % 2 == 1) := by unfold bitB; rw [hp, hq]
          have hq1 : Int.tdiv (j : Int) (p : Int) = (q : Int) := by rw [← hq]; rfl
          have hq2 : (j : Int) / (p : Int) = (q : Int) := by rw [← hq]; exact (Int.natCast_ediv j p).symm
          obtain ⟨r, hr⟩ : ∃ r : Nat, q % 2 = r := ⟨_, rfl⟩
          have hr1 : Int.tmod (q : Int) 2 = (r : Int) := by rw [← hr]; rfl
          have hr2 : (q : Int) % 2 = (r : Int) := by rw [← hr]; exact (Int.natCast_emod q 2).symm
          obtain ⟨bv, hbv⟩ : ∃ b, ((r : Int) == 1) = b := ⟨_, rfl⟩
          have HBV : Hid (bitB j k = bv) := Lib.hid (by
            rw [hqb, hr, ← hbv, Bool.eq_iff_iff]
            simp
            omega)
          have hpz : ((p : Int) == 0) = false := by simp; omega
          have hqb2 : q ≤ 65536 := by rw [← hq]; exact Nat.le_trans (Nat.div_le_self _ _) (by omega)
          have hpz2 : ¬ p = 0 := by omega
          have hwq : IntKind.i64.wrap (q : Int) = (q : Int) := IntWalk.i64_in _ (by omega)
          have HOQ := Lib.hid hoq
          have HBQ := Lib.hid hbq
          clear hcC hxi hqb hq hr hp hoq hoCq hbq e9
          go_wp2_with fail
          refine wp_region_store [0, 1, 2, 3, 4, 5, 6, 7, 8, 9, 10, 11] [.slice (some ⟨wo.heap.size, 0, none⟩) L.length L.length, .slice (some ⟨gC, 0, none⟩) (crn L).length cC, .int .i64 k, .pointer (some ⟨gC, k, none⟩), .int .i64 i, .int .i64 j, .int .i64 k, .int .i64 p, .int .i64 q, .int .i64 r, .bool bv, .pointer (some ⟨wo.heap.size, i, none⟩)] (fun w' => Dr wr w') _ hmx (fun _ h => h) rfl (by kernel_rfl) (by kernel_rfl) rfl rfl (by kernel_rfl) (by kernel_rfl) _ rfl rfl rfl 4 _ _ rfl ⟨wo.heap.size, i, none⟩ (.bool bv) ?hx ?hy ?run ?steps ?rest
          case hx => simp only [putsOfG, Act.put, List.getElem?_toArray, List.getElem?_cons_succ, List.getElem?_cons_zero, Option.bind_some, Nat.reduceAdd, List.setIfInBounds_toArray, List.set_cons_zero, List.set_cons_succ]; rfl
          case hy => simp only [putsOfG, Act.put, List.getElem?_toArray, List.getElem?_cons_succ, List.getElem?_cons_zero, Option.bind_some, Nat.reduceAdd, List.setIfInBounds_toArray, List.set_cons_zero, List.set_cons_succ]; rfl
          case run =>
            intro wp hS
            have s1 := cell_drS hS hc9
            have s3 := froz_drS hS hf9
            go_simp
          case steps =>
            simp only [putsOfG, Act.put, List.getElem?_toArray, List.getElem?_cons_succ, List.getElem?_cons_zero, Option.bind_some, Nat.reduceAdd, List.setIfInBounds_toArray, List.set_cons_zero, List.set_cons_succ]
            refine StepsG.cons rfl rfl (fun wq hS => ?_) ?_
            · go_simp
            refine StepsG.cons rfl rfl (fun wq hS => ?_) ?_
            · go_simp
            refine StepsG.cons rfl rfl (fun wq hS => ?_) ?_
            · go_simp
            refine StepsG.cons rfl rfl (fun wq hS => ?_) ?_
            · go_simp
            refine StepsG.cons rfl rfl (fun wq hS => ?_) ?_
            · have s1 := cell_drS hS hcC'
              go_simp
            refine StepsG.cons rfl rfl (fun wq hS => ?_) ?_
            · go_simp
            refine StepsG.cons rfl rfl (fun wq hS => ?_) ?_
            · go_simp
            refine StepsG.cons rfl rfl (fun wq hS => ?_) ?_
            · go_simp
              go_at_call 71
              refine (HPK.out _).mono ?_
              rintro e w' ⟨rfl, rfl⟩
              exact ⟨rfl, hS⟩
            refine StepsG.cons rfl rfl (fun wq hS => ?_) ?_
            · go_simp
            refine StepsG.cons rfl rfl (fun wq hS => ?_) ?_
            · go_simp
            refine StepsG.cons rfl rfl (fun wq hS => ?_) ?_
            · go_simp
            refine StepsG.cons rfl rfl (fun wq hS => ?_) ?_
            · go_simp
            exact StepsG.nil
          case rest =>
            intro wp hS
            simp only [putsOfG, Act.put, List.getElem?_toArray, List.getElem?_cons_succ, List.getElem?_cons_zero, Option.bind_some, Nat.reduceAdd, List.setIfInBounds_toArray, List.set_cons_zero, List.set_cons_succ]
            go_wp2_with fail
            go_roundw
            case rel =>
              have e := (HOQ.out.below (hS.below _)).set i (.bool bv)
              rw [bls_set, ← HBV.out, HF.out, ← HSS.out, ← HF.out] at e
              refine ⟨k + 1, by go_num, by omega, (HBQ.out.trans (hS.below _)).setCell (p := ⟨wo.heap.size, i, none⟩) (Nat.le_refl _) _, ?_, ?_⟩
              · rw [HBV.out] at e; exact e
              · have := hS.size; simp [World.setCell]; omega
            case measure => simp [intOf]; omega
        · obtain rfl : k = (crn L).length := by omega
          rw [List.take_of_length_le (Nat.le_refl _), HF.out, mkm_stN] at hoq
          have hbw : Below w.heap.size w wr := hbel.trans (hbq.mono hbel.size)
          have hRq : Rd wr w.heap.size a (ints L) := hhB0.out.below hbw
          have HBAGq := Lib.hid (HBAG.out.below em_keep hbq)
          have hzw := hbw.size
          have hbqz := hbq.size
          have HOQ := Lib.hid hoq
          clear hoq hRr
          go_wp2_with (first
            | (at_builtin; (refine wpList_append_o _ rfl (.tmp 40) (.tmp 41) 30 rfl wr.heap.size (wr.heap.size + 1) 3 ii (.int .i64 0) 8 Try.underlying30 hii hii0 hii1 hii2 rfl _ [] rfl (Own.empty wr 3) w.heap.size a L.length c (ints L) rfl (hRq.below ((Below.refl _ _).alloc hzw _)) (by simp) (fun u hu => by simp [ints] at hu; obtain ⟨y, _, rfl⟩ := hu; rfl) (by simp; unfold maxLen; omega) (by simp; omega) (by simp) ?_); intro v6 w6 ho6 hg6 hat6; (rw [List.nil_append] at ho6; have hf6 := ho6.form; rw [List.length_map] at hf6; obtain ⟨a6, c6, rfl⟩ := hf6); (have hbe6 : Below wr.heap.size wr w6 := ((Below.refl _ wr).alloc (Nat.le_refl _) _).grown hg6 (by simp) (fun g hg => Nat.le_of_eq (Option.some.inj (show some wr.heap.size = some g from hg)))); (have hz6 := hbe6.size); (have hem : EM w6 wo.heap.size w6.heap.size [.slice a6 L.length c6, .slice (some ⟨wo.heap.size, 0, none⟩) (mkm L j).length L.length] (L, mkm L j) := ⟨a6, _, c6, L.length, w3.heap.size, rfl, hz3, by omega, by have e := HOQ.out.below (hbe6.mono hzq); rw [mkm_len]; exact e, ho6.lower (by omega)⟩; rw [mkm_len] at hem); (have hsing := Lib.hid (OwnBag.single (t := 33) (n := 2) em_keep hem (by omega) (Nat.le_refl _) rfl (em_one _ _ _ _ _ _))); (have hbag7 := Lib.hid ((HBAGq.out.below em_keep (hbe6.mono hbqz)).alloc em_keep (.cells #[.slice a6 L.length c6, .slice (some ⟨wo.heap.size, 0, none⟩) L.length L.length] 33))); (have HGO : Hid (g1 ≤ wo.heap.size) := Lib.hid hgz); (have HGW : Hid (g1 ≤ (w6.alloc (.cells #[.slice a6 L.length c6, .slice (some ⟨wo.heap.size, 0, none⟩) L.length L.length] 33)).heap.size) := Lib.hid (by simp; omega)); (have HB7 := Lib.hid ((hbw.trans (hbe6.mono hzw)).alloc (by omega) (.cells #[.slice a6 L.length c6, .slice (some ⟨wo.heap.size, 0, none⟩) L.length L.length] 33))); (have HGW2 : Hid (w.heap.size ≤ (w6.alloc (.cells #[.slice a6 L.length c6, .slice (some ⟨wo.heap.size, 0, none⟩) L.length L.length] 33)).heap.size) := Lib.hid (by simp; omega)); (have HGO2 : Hid (w.heap.size ≤ g1) := Lib.hid HGQ.out); (have HLX : Hid (((amP L).take j).length ≤ 1000000000) := Lib.hid (by rw [List.length_take]; omega)); (have HC7 := Lib.hid (((hoC.below (hbq.mono hgz)).below (hbe6.mono (by omega))).alloc (.cells #[.slice a6 L.length c6, .slice (some ⟨wo.heap.size, 0, none⟩) L.length L.length] 33))); clear hem)
            | (at_builtin; refine wpList_append_bag (t := 33) rfl (.tmp 39) (.tmp 45) 22 rfl em_keep i22 _ 48 Try.underlying22 hi22 hq0 hq1 hq2 rfl (by decide) rfl hbag7.out rfl hsing.out (Nat.le_refl _) HGO.out HLX.out (by simp) (by decide) HGW.out ?_; intro v8 w8 hbag8 hg8 hat8))
          go_roundw
          case rel =>
            have e := hbag8
            rw [← HAT.out j (by rw [HAL.out]; exact hlt), ← List.take_succ_eq_append_getElem (by rw [HAL.out]; exact hlt)] at e
            exact ⟨j + 1, _, _, by go_num, by omega, e, HB7.out.grown hg8 HGW2.out (fun g hg => by have := hbag7.out.base g hg; have := HGO2.out; omega), (HC7.out).grown hg8 (by
              cases hb : Value.ownBlock (.slice aC (crn L).length cC) with
              | none => exact .inl rfl
              | some g => exact .inr fun e => by have h1 := HC7.out.lt g hb; have h2 := hbag7.out.base g e.symm; omega), by have h1 := hg8.size; have h2 := HGW.out; omega⟩
          case measure => simp [intOf]; omega
    · obtain rfl : j = pw := by omega
      rw [← HAL.out, List.take_length] at hbag
      rw [HAL.out] at *
      obtain ⟨aO, cO, rfl⟩ := hbag.form
      have hf := hbag.lower (show w.heap.size ≤ g1 by omega)
      go_wp2_with (go_at_call 71; refine (HPW.out _).mono ?_; rintro e w' ⟨rfl, rfl⟩)
      go_ret
      exact ⟨aO, cO, us, iv, rfl, hf, hbel⟩
end Go.Proofs.Ytgkghebjaedjmaa
namespace Go.Proofs.Ytgkghebjaedjmaa
open Go.RowKit NP
set_option maxRecDepth 8000
set_option linter.unusedVariables false
theorem keepD2 {wr wx w' : World} {p q : Addr} {x y : Value} (h1 : wx.cell? p = some x) (h2 : wx.cell? q = some y) (h3 : Dr wr wx) (hd : Dr wx w') : w'.cell? p = some x ∧ w'.cell? q = some y ∧ Dr wr w' := by
  obtain ⟨n, rfl⟩ := hd
  exact ⟨h1, h2, h3.drewN n⟩

theorem eqIntSS_same (a b : Option Addr) (ca cb Ba Bb : Nat) (LL : List (List Int)) (w : World) (h : RdLL w Ba a LL) (hm : RdLL w Bb b LL) (hl : LL.length ≤ 4611686018427387904) (hil : ∀ L ∈ LL, L.length ≤ 4611686018427387904) :
    Calls Try.prog 56 #[.slice a LL.length ca, .slice b LL.length cb] w fun e w' => e = .returned (.bool true) ∧ Dr w w' := by
  have hne : ((LL.length : Int) != (LL.length : Int)) = false := by simp
  go_enter Try.func56, Try.ntmps56
  go_wp2
  go_loopw [5] (fun i wr => ∃ k : Nat, k ≤ LL.length ∧ i = .int .i64 k ∧ Dr w wr) (fun i _ => LL.length - (intOf i).toNat)
  case atStart => exact ⟨0, Nat.zero_le _, rfl, Dr.refl _⟩
  case round =>
    obtain ⟨k, hk, rfl, hdr⟩ := hrel
    by_cases hlt : k < LL.length
    · obtain ⟨b1, o1, a1, c1, rfl, -, hc1, hr1, -⟩ := (h.dr hdr).at_ hlt
      obtain ⟨b2, o2, a2, c2, rfl, -, hc2, hr2, -⟩ := (hm.dr hdr).at_ hlt
      have hil' := hil LL[k] (List.getElem_mem hlt)
      clear hil h hm
      generalize LL[k] = M at hc1 hc2 hr1 hr2 hil'
      go_wp2_with fail
      go_region_held3 (fun w' => w'.cell? ⟨b1, o1 + k, none⟩ = some (.slice a1 M.length c1) ∧ w'.cell? ⟨b2, o2 + k, none⟩ = some (.slice a2 M.length c2) ∧ Dr wr w') (first | exact ⟨hc1, hc2, Dr.n wr 1⟩ | exact keepD2 (by assumption) (by assumption) (Dr.n wr 1) hd)
        (first | (go_at_call 37; refine (eqIntS_same a1 a2 c1 c2 Ba Bb M _ (hr1.dr (Dr.n wr 1)) (hr2.dr (Dr.n wr 1)) hil').mono ?_; rintro e w' ⟨rfl, hd⟩))
      have hdw : Dr wr w' := by obtain ⟨n, rfl⟩ := hd; exact (Dr.n wr 1).drewN n
      go_wp2_with fail
      go_roundw
      case rel => exact ⟨k + 1, by omega, by go_num, by obtain ⟨n, rfl⟩ := hdw; exact hdr.drewN n⟩
      case measure => simp [intOf]; omega
    · obtain rfl : k = LL.length := by omega
      go_wp2
      go_ret
      exact ⟨rfl, hdr⟩

theorem equalLists_same (a b : Option Addr) (ca cb Ba Bb : Nat) (LL : List (List Int)) (w : World) (h : RdLL w Ba a LL) (hm : RdLL w Bb b LL) (hl : LL.length ≤ 4611686018427387904) (hil : ∀ L ∈ LL, L.length ≤ 4611686018427387904) :
    Calls Try.prog 28 #[.slice a LL.length ca, .slice b LL.length cb] w fun e w' => e = .returned (.bool true) ∧ Dr w w' := by
  have hne : ((LL.length : Int) != (LL.length : Int)) = false := by simp
  go_enter Try.func28, Try.ntmps28
  go_wp2
  go_loopw [5] (fun i wr => ∃ k : Nat, k ≤ LL.length ∧ i = .int .i64 k ∧ Dr w wr) (fun i _ => LL.length - (intOf i).toNat)
  case atStart => exact ⟨0, Nat.zero_le _, rfl, Dr.refl _⟩
  case round =>
    obtain ⟨k, hk, rfl, hdr⟩ := hrel
    by_cases hlt : k < LL.length
    · obtain ⟨b1, o1, a1, c1, rfl, -, hc1, hr1, -⟩ := (h.dr hdr).at_ hlt
      obtain ⟨b2, o2, a2, c2, rfl, -, hc2, hr2, -⟩ := (hm.dr hdr).at_ hlt
      have hil' := hil LL[k] (List.getElem_mem hlt)
      clear hil h hm
      generalize LL[k] = M at hc1 hc2 hr1 hr2 hil'
      go_wp2_with fail
      go_region_held3 (fun w' => w'.cell? ⟨b1, o1 + k, none⟩ = some (.slice a1 M.length c1) ∧ w'.cell? ⟨b2, o2 + k, none⟩ = some (.slice a2 M.length c2) ∧ Dr wr w') (first | exact ⟨hc1, hc2, Dr.n wr 1⟩ | exact keepD2 (by assumption) (by assumption) (Dr.n wr 1) hd)
        (first | (go_at_call 52; refine (equalInts_same a1 a2 c1 c2 Ba Bb M _ (hr1.dr (Dr.n wr 1)) (hr2.dr (Dr.n wr 1)) hil').mono ?_; rintro e w' ⟨rfl, hd⟩))
      have hdw : Dr wr w' := by obtain ⟨n, rfl⟩ := hd; exact (Dr.n wr 1).drewN n
      go_wp2_with fail
      go_roundw
      case rel => exact ⟨k + 1, by omega, by go_num, by obtain ⟨n, rfl⟩ := hdw; exact hdr.drewN n⟩
      case measure => simp [intOf]; omega
    · obtain rfl : k = LL.length := by omega
      go_wp2
      go_ret
      exact ⟨rfl, hdr⟩
theorem markIntSS_any (a : Option Addr) (c lo hi : Nat) (m : Int) (LL : List (List Int)) (vs : List Value) (w : World) (h : OwnLL w lo hi 30 3 (.slice a LL.length c) vs LL) (hlo : lo ≤ hi) (hm : 0 ≤ m) (hm2 : m ≤ 1073741824) (hl : cntLL LL ≤ 1073741824) (hl2 : LL.length ≤ 1073741824) :
    Calls Try.prog 57 #[.slice a LL.length c, .int .i64 m] w fun e w' => e = .returned (.int .i64 (m + (cntLL LL : Int))) ∧ OwnLL w' lo hi 30 3 (.slice a LL.length c) vs (marksLL m LL) ∧ Below lo w w' := by
  go_enter Try.func57, Try.ntmps57
  go_wp2_with fail
  go_loopw [1, 5] (fun kk i wr => ∃ k : Nat, k ≤ LL.length ∧ i = .int .i64 k ∧ kk = .int .i64 (m + (cntLL (LL.take k) : Int)) ∧ Below lo w wr ∧ OwnLL wr lo hi 30 3 (.slice a LL.length c) vs (marksLL m (LL.take k) ++ LL.drop k)) (fun _ i _ => LL.length - (intOf i).toNat)
  case atStart => exact ⟨0, Nat.zero_le _, rfl, by simp [cntLL], Below.refl _ _, by simpa [marksLL] using h⟩
  case round =>
    obtain ⟨k, hk, rfl, rfl, hbr, hor⟩ := hrel
    clear h
    have hck := cntLL_take LL k
    by_cases hlt : k < LL.length
    · have hge : ∀ hh, (marksLL m (LL.take k) ++ LL.drop k)[k]'hh = LL[k] := fun hh => by
        have e1 : (marksLL m (LL.take k)).length = k := by rw [marksLL_len, List.length_take]; omega
        rw [List.getElem_append_right (by omega)]
        simp [e1]
      obtain ⟨g, a', c', rfl, hg1, hg2, hcell, hown, hvs⟩ := hor.at_ (k := k) (by simp [marksLL_len]; omega)
      rw [hge] at hcell hown hvs
      have hset := marksLL_set m hlt
      have hcs : cntLL (LL.take (k + 1)) = cntLL (LL.take k) + LL[k].length := by rw [List.take_succ_eq_append_getElem hlt, cntLL_append]
      have hck1 := cntLL_take LL (k + 1)
      rw [hcs] at hck1
      have HCS := Lib.hid hcs
      have HSET := Lib.hid hset
      have HOR := Lib.hid hor
      clear hge hcs hset hor
      generalize LL[k] = M at hcell hown hvs hck1 HCS HSET
      obtain ⟨q, hq⟩ : ∃ q : Int, q = m + (cntLL (LL.take k) : Int) := ⟨_, rfl⟩
      rw [← hq]
      have hq0 : 0 ≤ q ∧ q ≤ 2147483648 := by omega
      have HQ := Lib.hid hq
      clear hq
      go_wp2_with (go_at_call 46; refine (markIntS_any a' c' lo hi q M _ hown hq0.1 (by omega) (by omega)).mono ?_; rintro e w' ⟨rfl, ho', hgr⟩)
      go_roundw
      case rel =>
        have hnew := HOR.out.setIn hvs hgr (L := (List.range M.length).map fun (j : Nat) => q + (j : Int)) ho'
        rw [HQ.out, HSET.out] at hnew
        exact ⟨k + 1, by omega, by go_num, by rw [HCS.out, HQ.out]; congr 1; omega, hbr.trans (hown.belowMark (Nat.le_trans hlo hown.le) hgr), hnew⟩
      case measure => simp [intOf]; omega
    · obtain rfl : k = LL.length := by omega
      rw [List.take_length] at *
      go_wp2_with fail
      go_ret
      exact ⟨rfl, by simpa using hor, hbr⟩

theorem heldIntSS_any (a : Option Addr) (c B : Nat) (m : Int) (LL : List (List Int)) (w : World) (h : RdLL w B a (marksLL m LL)) (hm : 0 ≤ m) (hm2 : m ≤ 1073741824) (hl : cntLL LL ≤ 1073741824) (hl2 : LL.length ≤ 1073741824) :
    Calls Try.prog 58 #[.slice a LL.length c, .int .i64 m] w fun e w' => e = .returned (.int .i64 (m + (cntLL LL : Int))) ∧ w = w' := by
  go_enter Try.func58, Try.ntmps58
  go_wp2_with fail
  go_loopw [1, 5] (fun kk i wr => ∃ k : Nat, k ≤ LL.length ∧ i = .int .i64 k ∧ kk = .int .i64 (m + (cntLL (LL.take k) : Int)) ∧ w = wr) (fun _ i _ => LL.length - (intOf i).toNat)
  case atStart => exact ⟨0, Nat.zero_le _, rfl, by simp [cntLL], rfl⟩
  case round =>
    obtain ⟨k, hk, rfl, rfl, rfl⟩ := hrel
    have hck := cntLL_take LL k
    by_cases hlt : k < LL.length
    · have hge : ∀ hh, (marksLL m LL)[k]'hh = (List.range LL[k].length).map fun (j : Nat) => (m + (cntLL (LL.take k) : Int)) + (j : Int) := fun hh => by
        exact marksLL_get m LL k hlt hh
      obtain ⟨b, o, a', c', rfl, -, hcell, hr, -⟩ := h.at_ (k := k) (by rw [marksLL_len]; exact hlt)
      rw [hge] at hcell hr
      rw [List.length_map, List.length_range] at hcell
      have hcs : cntLL (LL.take (k + 1)) = cntLL (LL.take k) + LL[k].length := by rw [List.take_succ_eq_append_getElem hlt, cntLL_append]
      have hck1 := cntLL_take LL (k + 1)
      rw [hcs] at hck1
      have HCS := Lib.hid hcs
      clear hge hcs
      generalize LL[k] = M at hcell hr hck1 HCS
      obtain ⟨q, hq⟩ : ∃ q : Int, q = m + (cntLL (LL.take k) : Int) := ⟨_, rfl⟩
      rw [← hq] at hr ⊢
      have hq0 : 0 ≤ q ∧ q ≤ 2147483648 := by omega
      have hqn : decide (q + (M.length : Int) < 0) = false := decide_eq_false (by omega)
      have HQ := Lib.hid hq
      clear hq
      go_wp2_with (go_at_call 48; refine (heldIntS_any a' c' B M.length q _ hr hq0.1 (by omega) (by omega)).mono ?_; rintro e w' ⟨rfl, rfl⟩)
      go_roundw
      case rel => exact ⟨k + 1, by omega, by go_num, by rw [HCS.out, HQ.out]; congr 1; omega, trivial⟩
      case measure => simp [intOf]; omega
    · obtain rfl : k = LL.length := by omega
      rw [List.take_length] at *
      go_wp2_with fail
      go_ret
      exact ⟨rfl, rfl⟩
end Go.Proofs.Ytgkghebjaedjmaa
namespace Go.Proofs.Ytgkghebjaedjmaa
open Go.RowKit NP
set_option maxRecDepth 8000
set_option linter.unusedVariables false
theorem T_ints : (Try.prog.info? 30).map (fun i => (i.zero, i.size, i.bytes)) = some (some (.slice none 0 0), 1, 24) := by kernel_rfl

theorem slist_zero (a : Option Addr) (c B : Nat) (H : List Int) (most : Int) (w : World) (h : Rd w B a (ints H)) (hB : B ≤ w.heap.size) (hl : H.length ≤ 100) :
    Calls Try.prog 39 #[.slice a H.length c, .int .i64 0, .int .i64 most] w fun e w' => ∃ a' c' vs, e = .returned (.slice a' 1 c') ∧ OwnLL w' w.heap.size w'.heap.size 30 3 (.slice a' 1 c') vs [H] ∧ Below w.heap.size w w' := by
  obtain ⟨i0, hi, hz0, hz1, hz2⟩ := T_int'
  go_enter Try.func39, Try.ntmps39
  go_wp2_with (at_builtin; refine wpList_append_o _ rfl (.tmp 11) (.tmp 12) 30 rfl w.heap.size (w.heap.size + 1) 3 i0 (.int .i64 0) 8 Try.underlying30 hi hz0 hz1 hz2 rfl _ [] rfl (Own.empty w 3) B a H.length c (ints H) rfl (h.alloc hB _) (by simp) (ints_one H) (by simp; unfold maxLen; omega) (by simp; omega) (by simp) ?_; intro v' w1 ho1 hg1 hat1; rw [List.nil_append] at ho1; obtain ⟨a2, c2, rfl⟩ := ho1.form; rw [List.length_map] at ho1 ⊢)
  have hg2 : (w.alloc (.cells #[] 3)).grownBy w1 (some w.heap.size) := hg1
  have hz1' := hg2.size
  simp at hz1'
  have hbl : Below w.heap.size w w1 := below_push (Below.refl _ _) (Nat.le_refl _) hg2 (fun g hg => by cases hg; exact Nat.le_refl _)
  go_ret
  exact ⟨_, _, _, rfl, by have := OwnLL.single (eo := 30) ho1 (by omega); simpa using this, hbl.alloc (by omega) _⟩
end Go.Proofs.Ytgkghebjaedjmaa
namespace Go.Proofs.Ytgkghebjaedjmaa
open Go.RowKit NP
set_option maxRecDepth 8000
set_option linter.unusedVariables false
set_option linter.unusedSimpArgs false
theorem OwnLL.one {w : World} {lo hi : Nat} {eo e : TypeId} {v : Value} {vs : List Value} {LL : List (List Int)} (h : OwnLL w lo hi eo e v vs LL) : ∀ u ∈ vs, u.oneCell' = true := by
  intro u hu
  obtain ⟨k, hk, rfl⟩ := List.getElem_of_mem hu
  have hl : k < LL.length := by rw [← h.len]; exact hk
  obtain ⟨a, c, e⟩ := (h.inner k _ _ (List.getElem?_eq_getElem hk) (List.getElem?_eq_getElem hl)).form
  rw [e]; rfl
theorem upQ_le (f n top j : Nat) : (upQ f n top j).length ≤ (upQ f n top top).length := by
  unfold upQ
  rw [List.take_of_length_le (i := top) (by simp)]
  have h := List.take_append_drop j (List.range top).reverse
  have h2 : (((List.range top).reverse.take j ++ (List.range top).reverse.drop j).flatMap (pieceQ f n)).length = ((List.range top).reverse.flatMap (pieceQ f n)).length := by rw [h]
  rw [List.flatMap_append, List.length_append] at h2
  omega
def cntQ : Bool := (List.range 17).all fun f => (List.range 17).all fun n => (List.range 17).all fun m => decide ((allQ f n m).length ≤ 400)
set_option maxRecDepth 100000 in
theorem cntQ_all : cntQ = true := by decide +kernel
theorem allQ_le {f n m : Nat} (hf : f ≤ 16) (hn : n ≤ 16) (hm : m ≤ 16) : (allQ f n m).length ≤ 400 := by
  have h := cntQ_all
  unfold cntQ at h
  have h1 := List.all_eq_true.1 h f (by simp; omega)
  have h2 := List.all_eq_true.1 h1 n (by simp; omega)
  have h3 := List.all_eq_true.1 h2 m (by simp; omega)
  simpa using h3
theorem up_next (H : List Int) (f n top q : Nat) (h1 : 1 ≤ q) (hq : q ≤ top) : (upQ f n top (top - q)).map (H ++ ·) ++ (allQ f (n - q) q).map ((H ++ [(q : Int)]) ++ ·) = (upQ f n top (top - (q - 1))).map (H ++ ·) := by
  rw [show top - (q - 1) = (top - q) + 1 from by omega, upQ_succ _ _ _ _ (by omega), List.map_append, show top - 1 - (top - q) = q - 1 from by omega, map_piece, show q - 1 + 1 = q from by omega]
theorem T_ints' : ∃ i, Try.prog.info? 30 = some i ∧ i.zero = some (.slice none 0 0) ∧ i.size = 1 ∧ i.bytes = 24 := info_parts T_ints

def ListsTo (f : Nat) : Prop := ∀ (n : Nat) (a : Option Addr) (c B : Nat) (H : List Int) (most : Nat) (w : World), n ≤ f → H.length + f ≤ 60 → most ≤ 16 → Rd w B a (ints H) → B ≤ w.heap.size →
    Calls Try.prog 39 #[.slice a H.length c, .int .i64 (n : Int), .int .i64 (most : Int)] w fun e w' => ∃ a' c' vs, e = .returned (.slice a' (allQ f n most).length c') ∧ OwnLL w' w.heap.size w'.heap.size 30 3 (.slice a' (allQ f n most).length c') vs ((allQ f n most).map (H ++ ·)) ∧ Below w.heap.size w w'
theorem slist_base (f n : Nat) (hn : n = 0) (a : Option Addr) (c B : Nat) (H : List Int) (most : Nat) (w : World) (hl : H.length ≤ 60) (h : Rd w B a (ints H)) (hB : B ≤ w.heap.size) :
    Calls Try.prog 39 #[.slice a H.length c, .int .i64 (n : Int), .int .i64 (most : Int)] w fun e w' => ∃ a' c' vs, e = .returned (.slice a' (allQ f n most).length c') ∧ OwnLL w' w.heap.size w'.heap.size 30 3 (.slice a' (allQ f n most).length c') vs ((allQ f n most).map (H ++ ·)) ∧ Below w.heap.size w w' := by
  subst hn
  rw [allQ_zero]
  refine (slist_zero a c B H most w h hB (by omega)).mono ?_
  rintro e w' ⟨a', c', vs, rfl, ho, hb⟩
  exact ⟨a', c', vs, rfl, by simpa using ho, hb⟩
set_option maxHeartbeats 4000000 in
theorem slist_step (f : Nat) (hf : f < 16) (ih : ListsTo f) : ListsTo (f + 1) := by
  intro n a c B H most w hn hH hm hrd0 hB
  by_cases h0 : n = 0
  · exact slist_base (f + 1) n h0 a c B H most w (by omega) hrd0 hB
  obtain ⟨i0, hi, hz0, hz1, hz2⟩ := T_int'
  obtain ⟨i1, hj, hy0, hy1, hy2⟩ := T_ints'
  obtain ⟨top, htop⟩ : ∃ top, top = min n most := ⟨_, rfl⟩
  have htn : top ≤ n := by rw [htop]; exact Nat.min_le_left _ _
  have htm : top ≤ most := by rw [htop]; exact Nat.min_le_right _ _
  have hor : top = n ∨ top = most := by rw [htop]; rcases Nat.le_total n most with h | h <;> simp [h]
  have h1n : 1 ≤ n := by omega
  rw [allQ_up f n most h0, ← htop]
  have HALL : Hid ((upQ f n top top).length ≤ 400) := Lib.hid (by have := allQ_le (f := f + 1) (n := n) (m := most) (by omega) (by omega) (by omega); rw [allQ_up f n most h0, ← htop] at this; exact this)
  have hn0 : ((n : Int) == 0) = false := beq_eq_false_iff_ne.2 (by omega)
  have hE := OwnLL.empty w 30 3
  have hbE : Below w.heap.size w (w.alloc (.cells #[] 30)) := (Below.refl _ _).alloc (Nat.le_refl _) _
  have HTOP := Lib.hid htop
  clear htop
  by_cases hlt : most < n
  · have hlt' : (most : Int) < (n : Int) := by omega
    have htq : top = most := by rw [HTOP.out]; omega
    clear hor
    subst htq
    go_enter Try.func39, Try.ntmps39
    go_wp2_with fail
    clear hlt hlt'
    go_loopw [7, 8] (fun v kk wr => ∃ (q : Nat) (a' : Option Addr) (c' : Nat) (vs : List Value), kk = .int .i64 (q : Int) ∧ q ≤ top ∧ v = .slice a' (upQ f n top (top - q)).length c' ∧ Below w.heap.size w wr ∧ OwnLL wr w.heap.size wr.heap.size 30 3 (.slice a' (upQ f n top (top - q)).length c') vs ((upQ f n top (top - q)).map (H ++ ·))) (fun _ kk _ => (intOf kk).toNat)
    case atStart => exact ⟨top, _, _, _, rfl, Nat.le_refl _, by rw [Nat.sub_self, upQ_zero]; rfl, hbE, by rw [Nat.sub_self, upQ_zero]; exact hE.more⟩
    case round =>
      obtain ⟨q, a', c', vs, rfl, hq, rfl, hbel, hout⟩ := hrel
      have HOUT := Lib.hid hout
      have HV : Hid (vs.length = (upQ f n top (top - q)).length) := Lib.hid (by rw [hout.len, List.length_map])
      clear hout hE hbE
      by_cases hq0 : q = 0
      · subst hq0
        go_wp2_with fail
        go_ret
        exact ⟨a', c', vs, rfl, HOUT.out, hbel⟩
      · have hq1 : 1 ≤ q := by omega
        have hq1' : (1 : Int) ≤ (q : Int) := by omega
        have hrd := hrd0.below (hbel.mono hB)
        have hupn := upQ_le f n top (top - q + 1)
        rw [upQ_succ f n top (top - q) (by omega), List.length_append, show top - 1 - (top - q) = q - 1 from by omega] at hupn
        have hpl : (pieceQ f n (q - 1)).length = (allQ f (n - q) q).length := by unfold pieceQ; rw [List.length_map, show q - 1 + 1 = q from by omega]
        rw [hpl] at hupn
        have HUP : Hid ((upQ f n top (top - q)).length + (allQ f (n - q) q).length ≤ 400) := Lib.hid (Nat.le_trans hupn HALL.out)
        clear hupn hpl
        obtain ⟨G, hG⟩ : ∃ G, G = H ++ [(q : Int)] := ⟨_, rfl⟩
        have HGL : Hid (G.length + f ≤ 60) := Lib.hid (by rw [hG]; simp; omega)
        have HG := Lib.hid hG
        clear hG hq0
        have hcast : ((n - q : Nat) : Int) = (n : Int) - (q : Int) := by omega
        go_wp2_with (first
          | (at_builtin; refine wpList_append_o _ rfl (.tmp 23) (.tmp 34) 43 rfl w.heap.size wr.heap.size 30 i1 (.slice none 0 0) 24 Try.underlying43 hj hy0 hy1 hy2 rfl _ vs rfl (HOUT.out.outer.below hb35) w5.heap.size a5 (allQ f (n - q) q).length c5 vsx rfl HX.out.outer.rd (by rw [HX.out.len, List.length_map]) HX.out.one (by rw [HV.out]; unfold maxLen; have := HUP.out; omega) (by rw [HV.out]; have := HUP.out; omega) (by have := hbel.size; have := hb35.size; omega) ?_; intro v' w6 ho6 hg6 hat6; have hall := (HOUT.out.below hb35).appendAll HX.out hb4.size (Nat.le_trans hbel.size hb4.size) ho6 hg6 hat6; have hb6 : Below w.heap.size w w6 := (hbel.trans (hb35.mono hbel.size)).grown hg6 (by have := hbel.size; have := hb35.size; omega) HOUT.out.outer.base; clear ho6 hg6 hat6; rw [HG.out, up_next H f n _ q hq1 hq] at hall; obtain ⟨a6, c6, rfl⟩ := hall.form; rw [List.length_map] at hall ⊢)
          | (go_at_call 39; have ihh := ih (n - q) a4 c4 _ G q _ (by omega) HGL.out (by omega) HO4.out.rd (Nat.le_refl _); rw [hcast] at ihh; refine ihh.mono ?_; rintro e w5 ⟨a5, c5, vsx, rfl, hx5, hb5⟩; clear ihh; have hb35 : Below wr.heap.size wr w5 := hb4.trans (hb5.mono hb4.size); have HX := Lib.hid hx5; clear hx5)
          | (at_builtin; refine wpList_append_o _ rfl (.tmp 26) (.tmp 28) 30 rfl wr.heap.size w3.heap.size 3 i0 (.int .i64 0) 8 Try.underlying30 hi hz0 hz1 hz2 rfl _ (ints H) rfl (HO3.out.alloc _) (w3.heap.size + 1) (some ⟨w3.heap.size, 0, none⟩) 1 1 [.int .i64 (q : Int)] rfl (Rd.one w3 _ _) rfl (by simp; rfl) (by simp; unfold maxLen; omega) (by simp; omega) (by rw [World.size_alloc]; have := hb3.size; omega) ?_; intro v' w4 ho4 hg4 hat4; clear hat4; have hb4 : Below wr.heap.size wr w4 := below_push hb3 (Nat.le_refl _) hg4 HO3.out.base; clear hg4; rw [show ints H ++ [Value.int .i64 (q : Int)] = ints G from by rw [HG.out]; simp [ints]] at ho4; obtain ⟨a4, c4, rfl⟩ := ho4.form; rw [List.length_map] at ho4 ⊢; have HO4 := Lib.hid ho4; clear ho4)
          | (at_builtin; refine wpList_append_o _ rfl (.tmp 24) (.tmp 25) 30 rfl wr.heap.size (wr.heap.size + 1) 3 i0 (.int .i64 0) 8 Try.underlying30 hi hz0 hz1 hz2 rfl _ [] rfl (Own.empty wr 3) B a H.length c (ints H) rfl (hrd.alloc (Nat.le_trans hB hbel.size) _) (by simp) (ints_one H) (by simp; unfold maxLen; omega) (by simp; omega) (by simp) ?_; intro v' w3 ho3 hg3 hat3; rw [List.nil_append] at ho3; clear hat3; obtain ⟨a3, c3, rfl⟩ := ho3.form; rw [List.length_map] at ho3 ⊢; have hb3 : Below wr.heap.size wr w3 := below_push (Below.refl _ _) (Nat.le_refl _) hg3 (fun g hg => by cases hg; exact Nat.le_refl _); clear hg3; have HO3 := Lib.hid ho3; clear ho3))
        go_roundw
        case rel =>
          exact ⟨q - 1, a6, c6, _, by rw [show ((q - 1 : Nat) : Int) = (q : Int) - 1 from by omega], by omega, rfl, hb6, hall⟩
        case measure => simp [intOf]; omega

  · have hlt' : ¬ (most : Int) < (n : Int) := by omega
    have htq : n = top := by rw [HTOP.out]; omega
    clear hor
    subst htq
    go_enter Try.func39, Try.ntmps39
    go_wp2_with fail
    clear hlt hlt'
    go_loopw [7, 8] (fun v kk wr => ∃ (q : Nat) (a' : Option Addr) (c' : Nat) (vs : List Value), kk = .int .i64 (q : Int) ∧ q ≤ n ∧ v = .slice a' (upQ f n n (n - q)).length c' ∧ Below w.heap.size w wr ∧ OwnLL wr w.heap.size wr.heap.size 30 3 (.slice a' (upQ f n n (n - q)).length c') vs ((upQ f n n (n - q)).map (H ++ ·))) (fun _ kk _ => (intOf kk).toNat)
    case atStart => exact ⟨n, _, _, _, rfl, Nat.le_refl _, by rw [Nat.sub_self, upQ_zero]; rfl, hbE, by rw [Nat.sub_self, upQ_zero]; exact hE.more⟩
    case round =>
      obtain ⟨q, a', c', vs, rfl, hq, rfl, hbel, hout⟩ := hrel
      have HOUT := Lib.hid hout
      have HV : Hid (vs.length = (upQ f n n (n - q)).length) := Lib.hid (by rw [hout.len, List.length_map])
      clear hout hE hbE
      by_cases hq0 : q = 0
      · subst hq0
        go_wp2_with fail
        go_ret
        exact ⟨a', c', vs, rfl, HOUT.out, hbel⟩
      · have hq1 : 1 ≤ q := by omega
        have hq1' : (1 : Int) ≤ (q : Int) := by omega
        have hrd := hrd0.below (hbel.mono hB)
        have hupn := upQ_le f n n (n - q + 1)
        rw [upQ_succ f n n (n - q) (by omega), List.length_append, show n - 1 - (n - q) = q - 1 from by omega] at hupn
        have hpl : (pieceQ f n (q - 1)).length = (allQ f (n - q) q).length := by unfold pieceQ; rw [List.length_map, show q - 1 + 1 = q from by omega]
        rw [hpl] at hupn
        have HUP : Hid ((upQ f n n (n - q)).length + (allQ f (n - q) q).length ≤ 400) := Lib.hid (Nat.le_trans hupn HALL.out)
        clear hupn hpl
        obtain ⟨G, hG⟩ : ∃ G, G = H ++ [(q : Int)] := ⟨_, rfl⟩
        have HGL : Hid (G.length + f ≤ 60) := Lib.hid (by rw [hG]; simp; omega)
        have HG := Lib.hid hG
        clear hG hq0
        have hcast : ((n - q : Nat) : Int) = (n : Int) - (q : Int) := by omega
        go_wp2_with (first
          | (at_builtin; refine wpList_append_o _ rfl (.tmp 23) (.tmp 34) 43 rfl w.heap.size wr.heap.size 30 i1 (.slice none 0 0) 24 Try.underlying43 hj hy0 hy1 hy2 rfl _ vs rfl (HOUT.out.outer.below hb35) w5.heap.size a5 (allQ f (n - q) q).length c5 vsx rfl HX.out.outer.rd (by rw [HX.out.len, List.length_map]) HX.out.one (by rw [HV.out]; unfold maxLen; have := HUP.out; omega) (by rw [HV.out]; have := HUP.out; omega) (by have := hbel.size; have := hb35.size; omega) ?_; intro v' w6 ho6 hg6 hat6; have hall := (HOUT.out.below hb35).appendAll HX.out hb4.size (Nat.le_trans hbel.size hb4.size) ho6 hg6 hat6; have hb6 : Below w.heap.size w w6 := (hbel.trans (hb35.mono hbel.size)).grown hg6 (by have := hbel.size; have := hb35.size; omega) HOUT.out.outer.base; clear ho6 hg6 hat6; rw [HG.out, up_next H f n _ q hq1 hq] at hall; obtain ⟨a6, c6, rfl⟩ := hall.form; rw [List.length_map] at hall ⊢)
          | (go_at_call 39; have ihh := ih (n - q) a4 c4 _ G q _ (by omega) HGL.out (by omega) HO4.out.rd (Nat.le_refl _); rw [hcast] at ihh; refine ihh.mono ?_; rintro e w5 ⟨a5, c5, vsx, rfl, hx5, hb5⟩; clear ihh; have hb35 : Below wr.heap.size wr w5 := hb4.trans (hb5.mono hb4.size); have HX := Lib.hid hx5; clear hx5)
          | (at_builtin; refine wpList_append_o _ rfl (.tmp 26) (.tmp 28) 30 rfl wr.heap.size w3.heap.size 3 i0 (.int .i64 0) 8 Try.underlying30 hi hz0 hz1 hz2 rfl _ (ints H) rfl (HO3.out.alloc _) (w3.heap.size + 1) (some ⟨w3.heap.size, 0, none⟩) 1 1 [.int .i64 (q : Int)] rfl (Rd.one w3 _ _) rfl (by simp; rfl) (by simp; unfold maxLen; omega) (by simp; omega) (by rw [World.size_alloc]; have := hb3.size; omega) ?_; intro v' w4 ho4 hg4 hat4; clear hat4; have hb4 : Below wr.heap.size wr w4 := below_push hb3 (Nat.le_refl _) hg4 HO3.out.base; clear hg4; rw [show ints H ++ [Value.int .i64 (q : Int)] = ints G from by rw [HG.out]; simp [ints]] at ho4; obtain ⟨a4, c4, rfl⟩ := ho4.form; rw [List.length_map] at ho4 ⊢; have HO4 := Lib.hid ho4; clear ho4)
          | (at_builtin; refine wpList_append_o _ rfl (.tmp 24) (.tmp 25) 30 rfl wr.heap.size (wr.heap.size + 1) 3 i0 (.int .i64 0) 8 Try.underlying30 hi hz0 hz1 hz2 rfl _ [] rfl (Own.empty wr 3) B a H.length c (ints H) rfl (hrd.alloc (Nat.le_trans hB hbel.size) _) (by simp) (ints_one H) (by simp; unfold maxLen; omega) (by simp; omega) (by simp) ?_; intro v' w3 ho3 hg3 hat3; rw [List.nil_append] at ho3; clear hat3; obtain ⟨a3, c3, rfl⟩ := ho3.form; rw [List.length_map] at ho3 ⊢; have hb3 : Below wr.heap.size wr w3 := below_push (Below.refl _ _) (Nat.le_refl _) hg3 (fun g hg => by cases hg; exact Nat.le_refl _); clear hg3; have HO3 := Lib.hid ho3; clear ho3))
        go_roundw
        case rel =>
          exact ⟨q - 1, a6, c6, _, by rw [show ((q - 1 : Nat) : Int) = (q : Int) - 1 from by omega], by omega, rfl, hb6, hall⟩
        case measure => simp [intOf]; omega

theorem slist_lists : ∀ f : Nat, f ≤ 16 → ListsTo f := by
  intro f
  induction f with
  | zero =>
    intro _ n a c B H most w hn hH hm hrd hB
    exact slist_base 0 n (by omega) a c B H most w (by omega) hrd hB
  | succ f ih => intro hf; exact slist_step f (by omega) (ih (by omega))
end Go.Proofs.Ytgkghebjaedjmaa
namespace Go.Proofs.Ytgkghebjaedjmaa
open Go.RowKit NP
set_option maxRecDepth 8000
set_option linter.unusedVariables false
set_option linter.unusedSimpArgs false
theorem filter_VL {xs : List VL} {l : List (List Int)} (h : xs.map (·.1) = l) (H0 : List Int → Bool) : (xs.filter (fun x => H0 x.1)).map (·.1) = l.filter H0 := by
  rw [← h, List.filter_map]; rfl
end Go.Proofs.Ytgkghebjaedjmaa
namespace Go.Proofs.Ytgkghebjaedjmaa
open Go.RowKit NP
set_option maxRecDepth 8000
set_option linter.unusedVariables false
set_option linter.unusedSimpArgs false
def apF (n : Int) : List (List Int) := if 0 ≤ n ∧ n ≤ 12 then allQ n.toNat n.toNat n.toNat else []
theorem apF_yes {n : Nat} (h : n ≤ 12) : apF (n : Int) = allQ n n n := by unfold apF; rw [if_pos (by omega)]; simp
theorem apF_no {n : Int} (h : ¬ (0 ≤ n ∧ n ≤ 12)) : apF n = [] := by unfold apF; rw [if_neg h]

end Go.Proofs.Ytgkghebjaedjmaa
namespace Go.Proofs.Ytgkghebjaedjmaa
open Go.RowKit NP
set_option maxRecDepth 8000
set_option linter.unusedVariables false
set_option linter.unusedSimpArgs false
theorem cntQQ : (List.range 13).all (fun k => decide (cntLL (allQ k k k) ≤ 2000)) = true := by decide +kernel
theorem apF_cnt (n : Int) : cntLL (apF n) ≤ 2000 := by
  unfold apF
  split
  · have := List.all_eq_true.1 cntQQ n.toNat (by simp; omega)
    simpa using this
  · simp [cntLL]
theorem apF_few2 (n : Int) : (apF n).length ≤ 1000 := by
  unfold apF
  split
  · exact allQ_len (by omega)
  · simp
theorem apF_shortTab : (List.range 13).all (fun k => (allQ k k k).all fun X => decide (X.length ≤ 16)) = true := by decide +kernel
theorem apF_short2 (n : Int) : ∀ X ∈ apF n, X.length ≤ 4611686018427387904 := by
  intro X hX
  unfold apF at hX
  split at hX
  · have h1 := List.all_eq_true.1 apF_shortTab n.toNat (by simp; omega)
    have h2 := List.all_eq_true.1 h1 X hX
    simp at h2
    omega
  · simp at hX
end Go.Proofs.Ytgkghebjaedjmaa
namespace Go.Proofs.Ytgkghebjaedjmaa
open Go.RowKit NP
set_option maxRecDepth 100000
set_option linter.unusedVariables false
set_option linter.unusedSimpArgs false
theorem len_flat {α β : Type} {f : α → List β} {M : Nat} : ∀ {l : List α}, (∀ x ∈ l, (f x).length ≤ M) → (l.flatMap f).length ≤ l.length * M := by
  intro l
  induction l with
  | nil => intro _; simp
  | cons x R ih =>
    intro h
    rw [List.flatMap_cons, List.length_append, List.length_cons, Nat.add_mul]
    have h1 := h x (List.mem_cons_self ..)
    have h2 := ih (fun y hy => h y (List.mem_cons_of_mem _ hy))
    omega
set_option maxHeartbeats 4000000 in
theorem sAllMarked_any (n : Int) (w : World) :
    Calls Try.prog 9 #[.int .i64 n] w fun e w' => ∃ a' c' us iv, e = .returned (.slice a' (amkF n).length c') ∧ OwnBag EM w' w.heap.size w'.heap.size 33 2 (.slice a' (amkF n).length c') us iv (amkF n) ∧ Below w.heap.size w w' := by
  by_cases h : 0 ≤ n ∧ n ≤ 8
  · obtain ⟨k, rfl⟩ := Int.eq_ofNat_of_zero_le h.1
    have hk : k ≤ 8 := by omega
    have h1 := h.1
    have h2 := h.2
    rw [amkF_yes hk]
    obtain ⟨i22, hi22, hq0, hq1, hq2⟩ := info_parts T_mkd2
    have hl := slist_lists k (by omega) k (some ⟨w.heap.size + 1, 0, none⟩) 0 (w.heap.size + 1 + 1) [] k ((w.alloc (.cells #[] 33)).alloc (.cells #[] 3)) (Nat.le_refl _) (by simp; omega) (by omega) (fun hne => absurd rfl hne) (by simp)
    have he0 := (OwnBag.empty (E := EM) w 33 2).alloc em_keep (.cells #[] 3)
    have hbe : Below w.heap.size w ((w.alloc (.cells #[] 33)).alloc (.cells #[] 3)) := ((Below.refl _ _).alloc (Nat.le_refl _) _).alloc (by simp) _
    have hm : (allQ k k k).map (([] : List Int) ++ ·) = allQ k k k := by simp
    rw [hm] at hl
    obtain ⟨W0, hW0⟩ : ∃ W0, (w.alloc (.cells #[] 33)).alloc (.cells #[] 3) = W0 := ⟨_, rfl⟩
    rw [hW0] at hl he0 hbe
    have HW0 := Lib.hid hW0
    have HL := Lib.hid hl
    clear hW0
    have HV : Hid (∀ L ∈ allQ k k k, valid L = true) := Lib.hid (fun L h => (allQ8_ok hk h).1)
    have hN := allQ_len (show k ≤ 16 by omega)
    clear h hl
    go_enter Try.func9, Try.ntmps9
    go_wp2_with (first
      | (go_at_call 39; rw [HW0.out]; refine HL.out.mono ?_; rintro e w1 ⟨a1, c1, vs, rfl, hLL, hb1⟩)
      | (go_at_call 38; refine (inRange_yes _ _ _ _ h1 h2).mono ?_; rintro e wv ⟨rfl, hwv⟩; obtain rfl : w = wv := hwv.symm))
    have hz1 := hb1.size
    have hbe1 := hbe.trans (hb1.mono hbe.size)
    have he1 := he0.below em_keep (hb1.mono he0.le)
    have hwz : w.heap.size + 1 ≤ W0.heap.size := he0.le
    have HWZ := Lib.hid hwz
    clear HL HW0 hbe he0
    go_loopw [3, 5] (fun vo vi wr => ∃ (i : Nat) (us : List (List Value)) (iv : List (Nat × Nat)), vi = .int .i64 i ∧ i ≤ (allQ k k k).length ∧ OwnBag EM wr w.heap.size wr.heap.size 33 2 vo us iv (((allQ k k k).take i).flatMap amP) ∧ OwnLL wr W0.heap.size w1.heap.size 30 3 (.slice a1 (allQ k k k).length c1) vs (allQ k k k) ∧ Below w.heap.size w wr ∧ w1.heap.size ≤ wr.heap.size) (fun _ vi _ => (allQ k k k).length - (intOf vi).toNat)
    case atStart => exact ⟨0, [], [], rfl, Nat.zero_le _, by simpa using he1.more, hLL, hbe1, Nat.le_refl _⟩
    case round =>
      obtain ⟨i, us, iv, rfl, hi, hbag, hll, hbel, hzr⟩ := hrel
      obtain ⟨wo, rfl⟩ : ∃ wo : World, wo = wr := ⟨_, rfl⟩
      clear hLL he1 hbe1
      by_cases hlt : i < (allQ k k k).length
      · have hlt' : (i : Int) < ((allQ k k k).length : Int) := by omega
        obtain ⟨g, a5, c5, rfl, hg1, hg2, hcell, hown, -⟩ := hll.at_ hlt
        have hv := HV.out _ (List.getElem_mem hlt)
        have hTK : Hid (((allQ k k k).take (i + 1)).flatMap amP = ((allQ k k k).take i).flatMap amP ++ amP (allQ k k k)[i]) := Lib.hid (by rw [List.take_succ_eq_append_getElem hlt, List.flatMap_append]; simp)
        have hln : (((allQ k k k).take i).flatMap amP).length ≤ 1000 * 65536 := by
          refine Nat.le_trans (len_flat (fun L hL => amP_few (HV.out L (List.mem_of_mem_take hL)))) ?_
          exact Nat.mul_le_mul_right _ (by rw [List.length_take]; omega)
        have HLN : Hid ((((allQ k k k).take i).flatMap amP).length ≤ 1000000000) := Lib.hid (by omega)
        have HLP : Hid ((amP (allQ k k k)[i]).length ≤ 1000000000) := Lib.hid (by have := amP_few hv; omega)
        have HLL := Lib.hid hll
        have HBG := Lib.hid hbag
        clear hln hll hbag
        obtain ⟨L, hL⟩ : ∃ L, L = (allQ k k k)[i] := ⟨_, rfl⟩
        rw [← hL] at hcell hown hv hTK HLP
        clear hL
        go_wp2_with (first
          | (go_at_call 40; refine (smarked_any L hv a5 c5 w1.heap.size wo hown.rd hzr).mono ?_; rintro e w5 ⟨a6, c6, us6, iv6, rfl, hbag6, hb6⟩; have hbag5 := Lib.hid (HBG.out.below em_keep hb6); have HB6 := Lib.hid hbag6; have HGW : Hid (w.heap.size ≤ w5.heap.size) := Lib.hid (Nat.le_trans hbel.size hb6.size); have HGZ : Hid (w.heap.size ≤ wo.heap.size) := Lib.hid hbel.size; have hll5 := Lib.hid (HLL.out.below (hb6.mono hzr)); have hbe5 := hbel.trans (hb6.mono hbel.size); have hz6 := hb6.size; clear hbag6)
          | (at_builtin; refine wpList_append_bag (t := 33) rfl (.tmp 20) (.tmp 25) 22 rfl em_keep i22 _ 48 Try.underlying22 hi22 hq0 hq1 hq2 rfl (by decide) rfl hbag5.out rfl HB6.out (Nat.le_refl _) HGZ.out HLN.out HLP.out (by decide) HGW.out ?_; intro v8 w8 hbag8 hg8 hat8))
        go_roundw
        case rel =>
          have e := hbag8
          rw [← hTK.out] at e
          have hne : ∀ (q : Nat) (cs : Array Value) (t : TypeId), t ≠ 33 → w5.heap[q]? = some (.cells cs t (0, 0)) → w8.heap[q]? = w5.heap[q]? := fun q cs t ht hc => hg8.block q (Array.getElem?_eq_some_iff.1 hc).1 (fun e => by
            obtain ⟨cs', hc'⟩ := hbag5.out.cells q e.symm
            rw [hc] at hc'; injection hc' with hc'; injection hc' with _ hc' _
            exact ht hc')
          exact ⟨i + 1, _, _, by go_num, by omega, e, hll5.out.stay hg8.size (fun q cs hc => hne q cs _ (by decide) hc) (fun q cs hc => hne q cs _ (by decide) hc), hbe5.grown hg8 HGW.out (fun q hq => hbag5.out.base q hq), by have := hg8.size; omega⟩
        case measure => simp [intOf]; omega
      · obtain rfl : i = (allQ k k k).length := by omega
        rw [List.take_length] at hbag
        obtain ⟨aO, cO, rfl⟩ := hbag.form
        have hf : OwnBag EM wo w.heap.size wo.heap.size 33 2 (.slice aO (amQ k).length cO) us iv (amQ k) := hbag
        have hle : ((allQ k k k).flatMap amP).length = (amQ k).length := rfl
        clear hll hbag
        go_wp2_with fail
        go_ret
        exact ⟨aO, cO, us, iv, rfl, hf, hbel⟩
  · have h3 : n < 0 ∨ 8 < n := by omega
    rw [amkF_no h]
    clear h
    go_enter Try.func9, Try.ntmps9
    go_wp2_with (go_at_call 38; refine (inRange_no _ _ _ _ h3).mono ?_; rintro e wv ⟨rfl, hwv⟩; obtain rfl : w = wv := hwv.symm)
    go_ret
    exact ⟨none, 0, [], [], rfl, OwnBag.nil _ _ _ _, Below.refl _ _⟩
end Go.Proofs.Ytgkghebjaedjmaa
namespace Go.Proofs.Ytgkghebjaedjmaa
open Go.RowKit NP
set_option maxRecDepth 8000
set_option linter.unusedVariables false
/-- but for block g and those from lo to hi, nothing has turned -/
structure Chg2 (g lo hi : Nat) (w w' : World) : Prop where
  os : w'.os = w.os
  tape : w'.tape = w.tape
  output : w'.output = w.output
  size : w.heap.size ≤ w'.heap.size
  block : ∀ k, k < w.heap.size → k ≠ g → (k < lo ∨ hi ≤ k) → w'.heap[k]? = w.heap[k]?
theorem Chg2.trans {g lo hi : Nat} {a b c : World} (h : Chg2 g lo hi a b) (k : Chg2 g lo hi b c) : Chg2 g lo hi a c :=
  ⟨k.os.trans h.os, k.tape.trans h.tape, k.output.trans h.output, Nat.le_trans h.size k.size, fun i hi hne hd => (k.block i (by have := h.size; omega) hne hd).trans (h.block i hi hne hd)⟩
theorem Chg2.of {g lo hi : Nat} {w w' : World} (h : w.grownBy w' (some g)) : Chg2 g lo hi w w' :=
  ⟨h.os, h.tape, h.output, h.size, fun k hk hne _ => h.block k hk (fun e => by injection e with e; exact hne e)⟩
theorem Chg2.ofBelow {g lo hi : Nat} {w w' : World} (h : Below w.heap.size w w') : Chg2 g lo hi w w' := ⟨h.os, h.tape, h.output, h.size, fun k hk _ _ => h.block k hk⟩
theorem Chg2.set {g lo hi : Nat} {w : World} {p : Addr} (v : Value) (h1 : lo ≤ p.block) (h2 : p.block < hi) : Chg2 g lo hi w (w.setCell p v) :=
  ⟨rfl, rfl, rfl, by simp [World.setCell], fun k _ _ hd => Below.heap_setCell w p v k (by rintro rfl; omega)⟩
theorem Chg2.push {g lo hi : Nat} {w0 w w1 : World} {o : Obj} {row : Option Nat} (h : Chg2 g lo hi w0 w) (hg : (w.alloc o).grownBy w1 row) (hr : ∀ k, row = some k → lo ≤ k ∧ k < hi) : Chg2 g lo hi w0 w1 :=
  (h.trans (.ofBelow ((Below.refl _ w).alloc (Nat.le_refl _) o))).trans ⟨hg.os, hg.tape, hg.output, hg.size, fun k hk hne hd => hg.block k hk (fun e => by have := hr k e.symm; omega)⟩
end Go.Proofs.Ytgkghebjaedjmaa
namespace Go.Proofs.Ytgkghebjaedjmaa
open Go.RowKit NP
set_option maxRecDepth 100000
set_option linter.unusedVariables false
set_option linter.unusedSimpArgs false
theorem boolRe {w : World} {B : Nat} {a : Option Addr} {bs : List Bool} (h : Rd w B a (bls bs)) {k : Nat} (hk : k < bs.length) : ∃ b o, a = some ⟨b, o, none⟩ ∧ b < B ∧ w.cell? ⟨b, o + k, none⟩ = some (.bool bs[k]) := by
  obtain ⟨b, o, h1, h2, h3⟩ := h (fun e => by
    have h0 : bs.length = 0 := by simpa using congrArg List.length e
    omega)
  exact ⟨b, o, h1, h2, h3 k _ (by simp [hk])⟩
theorem isC_eq {L : List Int} (h : valid L = true) {k : Nat} (hk : k + 1 < L.length) : isC L k = !(L[k]'(by omega) == L[k + 1]) := by
  have h1 := (preS_of_valid h (k + 1) hk hk).2.2 (by omega)
  simp only [Nat.add_sub_cancel] at h1
  unfold isC
  rw [decide_eq_false (by omega), Bool.false_or, getD_lt hk, getD_lt (by omega)]
  by_cases e : L[k]'(by omega) = L[k + 1]
  · rw [decide_eq_false (by omega), beq_iff_eq.2 e]; rfl
  · rw [decide_eq_true (by omega), beq_eq_false_iff_ne.2 e]; rfl
theorem isC_end {L : List Int} {k : Nat} (hk : k + 1 = L.length) : isC L k = true := by unfold isC; rw [decide_eq_true hk]; rfl
end Go.Proofs.Ytgkghebjaedjmaa
