/-
  Walks of the model: the parts right below some.
-/
import Derived.Test.YtmojonpjgaidgaaZchain1
import Derived.Test.YtmojonpjgaidgaaZchain2
import Derived.Test.YtmojonpjgaidgaaZchain3
import Derived.Test.YtmojonpjgaidgaaZchain4
import Derived.Test.YtmojonpjgaidgaaZchain5
import Derived.Test.YtmojonpjgaidgaaZchain6
import Derived.Test.YtmojonpjgaidgaaZchain7
import Derived.Test.YtmojonpjgaidgaaZchain8
import Derived.Test.YtmojonpjgaidgaaZchain9
import Derived.Deep.LoopGhost
namespace Go.Proofs.Ytmojonpjgaidgaa
open Go.RowKit NP
set_option maxRecDepth 8000
set_option linter.unusedVariables false
set_option linter.unusedSimpArgs false
attribute [local go_sem ↓] Go.wp_at_zero Go.wp_at_succ
def covU (L : List Int) (k : Nat) : List (List Int) := (List.range k).filterMap (covS L)
theorem covU_no {L : List Int} {i : Nat} (h : covS L i = none) : covU L (i + 1) = covU L i := by
  unfold covU
  rw [List.range_succ, List.filterMap_append]
  simp [h]
theorem covU_yes {L : List Int} {i : Nat} {Q : List Int} (h : covS L i = some Q) : covU L (i + 1) = covU L i ++ [Q] := by
  unfold covU
  rw [List.range_succ, List.filterMap_append]
  simp [h]
theorem covU_len (L : List Int) (i : Nat) : (covU L i).length ≤ i := by
  unfold covU
  have := List.length_filterMap_le (covS L) (List.range i)
  simpa using this
theorem runK_eq {L : List Int} {i k : Nat} (hi : i < L.length) (h1 : i + 1 ≤ k) (hk : k ≤ L.length) (hP : ∀ r (h : r < L.length), i + 1 ≤ r → r < k → L[r] = L.getD i 0 - 1) (h2 : k = L.length ∨ ∃ h : k < L.length, ¬ L[k] = L.getD i 0 - 1) : runK L i = k := by
  have e := tw_len (fun x => x == L.getD i 0 - 1) (L.drop (i + 1)) (k - (i + 1)) (by rw [List.length_drop]; omega) (fun r h hr => by
    rw [List.getElem_drop]
    simpa using hP (i + 1 + r) (by rw [List.length_drop] at h; omega) (by omega) (by omega)) (by
    rcases h2 with h2 | ⟨h3, h4⟩
    · left; rw [List.length_drop]; omega
    · right
      refine ⟨by rw [List.length_drop]; omega, ?_⟩
      rw [List.getElem_drop]
      have e : i + 1 + (k - (i + 1)) = k := by omega
      simp only [e]
      simpa using h4)
  unfold runK
  rw [e]
  omega
theorem covS_no {L : List Int} {i : Nat} (h : (i + 1 < L.length ∧ L.getD i 0 = L.getD (i + 1) 0) ∨ L.getD i 0 < 2) : covS L i = none := by
  unfold covS
  rw [if_pos h]
theorem covS_eq {L QQ Q2 : List Int} {i k d : Nat} {x z zz u : Int} (hx : L.getD i 0 = x) (hn : ¬((i + 1 < L.length ∧ L.getD i 0 = L.getD (i + 1) 0) ∨ L.getD i 0 < 2)) (hk : runK L i = k) (hkQ : k < QQ.length) (hik : i ≠ k) (hQ : QQ = if k = L.length then L ++ [0] else L)
    (hz : QQ[k] = z) (hQ2 : Q2 = (QQ.set i (x - 1)).set k (z + 1)) (hd : d < QQ.length) (hu : Q2[d]'(by rw [hQ2]; simpa using hd) = u) (hzz : z + 1 = zz) (hkd : k - 1 = d) :
    covS L i = if (zz ≤ u ∧ (k = i + 1 ∨ x - 2 = zz - 1)) then some Q2 else none := by
  have e0 : lowQ L i = Q2 := by
    unfold lowQ
    simp only [hk, ← hQ, hx]
    rw [hQ2]
    congr 1
    rw [List.getD_eq_getElem?_getD, List.getElem?_set_ne hik, List.getElem?_eq_getElem hkQ, hz]
    rfl
  have e1 : Q2.getD k 0 = zz := by
    rw [hQ2, List.getD_eq_getElem?_getD]
    simp [hkQ, hzz]
  have e2 : Q2.getD (k - 1) 0 = u := by
    rw [hkd, List.getD_eq_getElem?_getD, List.getElem?_eq_getElem (by rw [hQ2]; simpa using hd), hu]
    rfl
  unfold covS
  rw [if_neg hn, e0, hk, e1, e2, hx]
set_option maxRecDepth 100000 in
set_option maxHeartbeats 8000000 in
theorem sCoversOf_any (a : Option Addr) (c B : Nat) (L : List Int) (w : World) (h : Rd w B a (ints L)) (hB : B ≤ w.heap.size) (hl : L.length ≤ 4611686018427387904) :
    Calls Try.prog 36 #[.slice a L.length c] w fun e w' => ∃ a' c', e = .returned (.slice a' (cvF L).length c') ∧ RdLF w' w.heap.size w'.heap.size a' (cvF L) ∧ Below w.heap.size w w' := by
  by_cases hok : valid L = true ∧ sumL L ≤ 12
  · obtain ⟨hv, h12⟩ := hok
    obtain ⟨i0, hi, hz0, hz1, hz2⟩ := T_int'
    obtain ⟨i1, hj, hy0, hy1, hy2⟩ := info_parts T_ints3
    have HV := Lib.hid hv
    rw [← cov_eq hv h12]
    have HCO := Lib.hid (covL_ok hv h12)
    have hl16 := (valid_bd hv).2.2.2
    have HF := Lib.hid (valid_fits hv)
    have HXB : Hid (∀ i (h : i < L.length), ∃ x : Int, L[i] = x ∧ L.getD i 0 = x ∧ 1 ≤ x ∧ x ≤ 16) := Lib.hid (fun i h => by
      have h3 := pad_nonneg hv i (by rw [pad_len hl16]; omega)
      rw [pad_get hl16 h] at h3
      have h4 := preS_of_valid hv i h h
      exact ⟨L[i], rfl, by rw [List.getD_eq_getElem?_getD, List.getElem?_eq_getElem h, Option.getD_some], by omega, by omega⟩)
    have HLI : Hid ((ints L).length = L.length) := Lib.hid (by simp)
    have h12' : ¬ 12 < sumL L := by omega
    clear hv
    have hmx : Try.prog.follows .mixedOrders = true := by kernel_rfl
    go_enter Try.func36, Try.ntmps36
    go_wp2_with (first | (go_at_call 32; refine (validParts_any _ _ _ L _ h (by omega)).mono ?_; rintro e w1 ⟨rfl, hd1⟩; rw [HV.out]; obtain ⟨nn, rfl⟩ := hd1) | (go_at_call 33; refine (sum_any _ _ _ L _ (h.dr (Dr.n w nn)) HF.out (by omega)).mono ?_; rintro e w1 ⟨rfl, rfl⟩))
    have hb1 : Below w.heap.size w (w.drewN nn) := (Dr.n w nn).below _
    have hE := OwnLL.empty (w.drewN nn) 22 3
    have hbE : Below w.heap.size w ((w.drewN nn).alloc (.cells #[] 22)) := hb1.alloc hb1.size _
    have hz1' := hb1.size
    go_loopw [3, 4] (fun v ii wr => ∃ (i : Nat) (us : List Value), i ≤ L.length ∧ ii = .int .i64 (i : Int) ∧ Below w.heap.size w wr ∧ OwnLL wr w.heap.size wr.heap.size 22 3 v us (covU L i)) (fun _ ii _ => L.length - (intOf ii).toNat)
    case atStart => exact ⟨0, [], Nat.zero_le _, rfl, hbE, hE.more.lower hz1'⟩
    case round =>
      obtain ⟨i, us, hin, rfl, hbr, ho⟩ := hrel
      obtain ⟨wo, rfl⟩ : ∃ wx : World, wx = wr := ⟨_, rfl⟩
      obtain ⟨a4, c4, hvo⟩ := ho.form
      subst hvo
      clear hb1 hE hbE
      by_cases hlt : i < L.length
      · have hlt' : (i : Int) < (L.length : Int) := by omega
        obtain ⟨x, hxe, hxg, hx1b, hx16⟩ := HXB.out i hlt
        obtain ⟨bp, op, rfl, hbB, hcp0⟩ := ((h.more hB).below hbr).at_ hlt
        have hcpo : wo.cell? ⟨bp, op + i, none⟩ = some (.int .i64 x) := by rw [hcp0, hxe]
        have HX := Lib.hid hxe
        have HXG := Lib.hid hxg
        have HO := Lib.hid ho
        have hzo := hbr.size
        have hul := ho.len
        have hcl := covU_len L i
        have HUL : Hid (us.length ≤ 16) := Lib.hid (by omega)
        have hbpo : bp < wo.heap.size := World.block_lt_of_cell? _ _ hcpo
        clear hxe hxg hcp0 ho hul hcl
        go_wp2_with (at_builtin; refine wpList_append_o _ rfl (.tmp 22) (.tmp 23) 22 rfl wo.heap.size (wo.heap.size + 1) 3 i0 (.int .i64 0) 8 Try.underlying22 hi hz0 hz1 hz2 rfl _ [] rfl (own_empty1 wo _ (Nat.le_refl _)) w.heap.size (some ⟨bp, op, none⟩) L.length c (ints L) rfl ((h.more hB).below (hbr.alloc hbr.size _)) HLI.out.symm (ints_one _) (by simp only [List.length_nil]; unfold maxLen; omega) (by simp only [List.length_nil]; omega) (by rw [World.size_alloc]; omega) ?_; intro v2 w2 ho2 hg2 hat2)
        have hb2 : Below wo.heap.size wo w2 := ((Below.refl _ _).alloc (Nat.le_refl _) _).grown hg2 (by rw [World.size_alloc]; omega) (own_empty1 wo 3 (Nat.le_refl _)).base
        have hvs : ([] : List Value) ++ ints L = ints L := rfl
        rw [hvs] at ho2
        clear hvs
        obtain ⟨gq, cq, rfl, hcq⟩ := ho2.formN (by rw [HLI.out]; omega)
        rw [HLI.out] at ho2 hcq ⊢
        have HO2 := Lib.hid ho2
        have HCELL : Hid (∀ j (hj : j < L.length), w2.cell? ⟨bp, op + j, none⟩ = some (.int .i64 L[j])) := Lib.hid (fun j hj => by
          obtain ⟨b', o', e1, -, h2⟩ := ((h.more hB).below hbr).at_ hj
          injection e1 with e1; injection e1 with e1 e2; subst e1 e2
          exact (hb2.cell (p := ⟨bp, op + j, none⟩) hbpo).trans h2)
        have hcx2 : w2.cell? ⟨bp, op + i, none⟩ = some (.int .i64 x) := (hb2.cell (p := ⟨bp, op + i, none⟩) hbpo).trans hcpo
        clear ho2 hg2 hat2
        go_wp2_with fail
        go_loopw [6] (fun j wr => ∃ k : Nat, i + 1 ≤ k ∧ k ≤ L.length ∧ j = .int .i64 (k : Int) ∧ Dr w2 wr ∧ Hid (∀ r (h : r < L.length), i + 1 ≤ r → r < k → L[r] = x - 1)) (fun j _ => L.length - (intOf j).toNat)
        case atStart => exact ⟨i + 1, Nat.le_refl _, hlt, by go_num, Dr.refl _, Lib.hid fun r _ h1 h2 => by omega⟩
        case round =>
          obtain ⟨k, hk1, hk, rfl, hdr, HP⟩ := hrel
          have hcxr : wr.cell? ⟨bp, op + i, none⟩ = some (.int .i64 x) := drCell hdr hcx2
          by_cases hkn : k < L.length
          · have hkn' : (k : Int) < (L.length : Int) := by omega
            obtain ⟨y, hye, hyg, hyb1, hyb2⟩ := HXB.out k hkn
            have hcy : wr.cell? ⟨gq, k, none⟩ = some (.int .i64 y) := by
              obtain ⟨g', e, hcM⟩ := (HO2.out.dr hdr).read (k := k) (by simpa using hkn)
              injection e with e; injection e with e _; subst e
              rw [hcM]; simp [hye]
            by_cases hy : y = x - 1
            · have hyb : (y == x - 1) = true := by simp [hy]
              have HY := Lib.hid hy
              have HYE := Lib.hid hye
              clear hy hye
              go_wp2_with fail
              go_quiet (fail)
              go_wp2
              go_roundw
              case rel => exact ⟨k + 1, by omega, by omega, by go_num, hdr.drewN _, Lib.hid fun r hr h1 h2 => by
                rcases Nat.lt_or_ge r k with h3 | h3
                · exact HP.out r hr h1 h3
                · obtain rfl : r = k := by omega
                  rw [HYE.out, HY.out]⟩
              case measure => simp [intOf]; omega
            · have hyb : (y == x - 1) = false := by simp [hy]
              have HK : Hid (runK L i = k) := Lib.hid (runK_eq hlt hk1 hk (fun r hr h1 h2 => by rw [HXG.out]; exact HP.out r hr h1 h2) (.inr ⟨hkn, by rw [HXG.out, hye]; exact hy⟩))
              clear hy hye hyg
              go_wp2_with fail
              go_quiet (fail)
              go_wp2_with fail
              obtain ⟨wd, hwd0⟩ : ∃ wd, wd = wr.drewN nq := ⟨_, rfl⟩
              rw [← hwd0]
              have hdd : Dr w2 wd := by rw [hwd0]; exact hdr.drewN nq
              have hbd : Below wo.heap.size wo wd := hb2.trans (hdd.below _)
              clear hwd0 hcxr hdr
              have hcxd : wd.cell? ⟨bp, op + i, none⟩ = some (.int .i64 x) := drCell hdd hcx2
              have hi1 : (i : Int) + 1 < 18 := by omega
              have hkl : ((k : Int) == (L.length : Int)) = false := by simp; omega
              by_cases hi2 : i + 1 < L.length
              · have hi2' : (i : Int) + 1 < (L.length : Int) := by omega
                obtain ⟨y1, hy1e, hy1g, hy1b, hy1c⟩ := HXB.out (i + 1) hi2
                have hcy : wd.cell? ⟨bp, op + (i + 1), none⟩ = some (.int .i64 y1) := by
                  have := drCell hdd (HCELL.out (i + 1) hi2)
                  rw [this, hy1e]
                obtain ⟨d1, hd1⟩ : ∃ d1, i + 1 = d1 := ⟨_, rfl⟩
                have hd1i : (i : Int) + 1 = (d1 : Int) := by omega
                have hwd1 : IntKind.i64.wrap (d1 : Int) = (d1 : Int) := IntWalk.i64_in _ (by omega)
                rw [hd1] at hcy
                have hd1l : d1 < L.length := by omega
                have hd1l' : (d1 : Int) < (L.length : Int) := by omega
                have HD1 := Lib.hid hd1
                have HY1 := Lib.hid hy1g
                clear hd1 hy1e hy1g hi2'
                by_cases hxy : x = y1
                · have hxyb : (x == y1) = true := by simp [hxy]
                  have HXY := Lib.hid hxy
                  clear hxy
                  go_quiet (fail)
                  go_wp2_with fail
                  go_roundw
                  case rel => exact ⟨i + 1, us, by omega, by go_num, hbr.trans ((hbd.trans ((Dr.n wd _).below _)).mono hzo), by rw [covU_no (covS_no (.inl ⟨by have := HD1.out; omega, by rw [HXG.out, HY1.out, HXY.out]⟩))]; exact (HO.out.below (hbd.trans ((Dr.n wd _).below _))).more⟩
                  case measure => simp [intOf]; omega
                · have hxyb : (x == y1) = false := by simp [hxy]
                  by_cases hx2 : x < 2
                  · go_quiet (fail)
                    go_wp2_with fail
                    go_roundw
                    case rel => exact ⟨i + 1, us, by omega, by go_num, hbr.trans ((hbd.trans ((Dr.n wd _).below _)).mono hzo), by rw [covU_no (covS_no (.inr (by rw [HXG.out]; exact hx2)))]; exact (HO.out.below (hbd.trans ((Dr.n wd _).below _))).more⟩
                    case measure => simp [intOf]; omega
                  · have hx2' : 2 ≤ x := by omega
                    go_quiet (fail)
                    try clear hd1i hwd1
                    obtain ⟨we, hwe⟩ : ∃ we, we = wd.drewN nq := ⟨_, rfl⟩
                    rw [← hwe]
                    have hbe : Below wo.heap.size wo we := by rw [hwe]; exact hbd.trans ((Dr.n wd nq).below _)
                    have HOE := Lib.hid (show Own we wo.heap.size w2.heap.size 3 (.slice (some ⟨gq, 0, none⟩) L.length cq) (ints L) by rw [hwe]; exact (HO2.out.dr hdd).dr (Dr.n wd nq))
                    have hzz2 : w2.heap.size ≤ we.heap.size := HOE.out.le
                    have hze := hbe.size
                    have HN : Hid (¬((i + 1 < L.length ∧ L.getD i 0 = L.getD (i + 1) 0) ∨ L.getD i 0 < 2)) := Lib.hid (by rintro (⟨_, h2⟩ | h2); exact hxy (by rw [HXG.out, HY1.out] at h2; exact h2); rw [HXG.out] at h2; omega)
                    clear hwe
                    obtain ⟨w3, rfl⟩ : ∃ w3, w3 = we := ⟨_, rfl⟩
                    have hb3 := hbe
                    obtain ⟨QQ, hQQ⟩ : ∃ QQ, QQ = L := ⟨_, rfl⟩
                    have HQQ : Hid (QQ = if k = L.length then L ++ [0] else L) := Lib.hid (by rw [if_neg (by omega), hQQ])
                    have hkQ : k < QQ.length := by rw [hQQ]; omega
                    have HQB : Hid (∀ j (hj : j < QQ.length), 0 ≤ QQ[j] ∧ QQ[j] ≤ 16) := Lib.hid (by
                      intro j hj
                      subst hQQ
                      obtain ⟨y, hy, -, h1, h2⟩ := HXB.out j hj
                      omega)
                    have hQx : QQ[i]'(by omega) = x := by
                      subst hQQ
                      exact HX.out
                    have hq17 : QQ.length ≤ 17 := by rw [hQQ]; omega
                    obtain ⟨g3, hg3⟩ : ∃ g3, g3 = gq := ⟨_, rfl⟩
                    obtain ⟨c3, hc3⟩ : ∃ c3, c3 = cq := ⟨_, rfl⟩
                    have HO3 : Hid (Own w3 wo.heap.size w3.heap.size 3 (.slice (some ⟨g3, 0, none⟩) L.length c3) (ints QQ)) := Lib.hid (by rw [hg3, hc3, hQQ]; exact HOE.out.more)
                    have HQL : Hid (L.length = QQ.length) := Lib.hid (by rw [hQQ])
                    rw [← hg3, ← hc3]
                    clear hQQ hg3 hc3
                    obtain ⟨z, hzk⟩ : ∃ z, QQ[k] = z := ⟨_, rfl⟩
                    have hzb := HQB.out k hkQ
                    rw [hzk] at hzb
                    obtain ⟨x1, hx1⟩ : ∃ x1, x - 1 = x1 := ⟨_, rfl⟩
                    obtain ⟨zz, hzz⟩ : ∃ zz, z + 1 = zz := ⟨_, rfl⟩
                    have hikn : i ≠ k := by omega
                    have own4 := HO3.out.set i (.int .i64 x1)
                    have own5 := own4.set k (.int .i64 zz)
                    obtain ⟨g', e1, c3i, f3i⟩ : ∃ g', g3 = g' ∧ w3.cell? ⟨g', i, none⟩ = some (.int .i64 x) ∧ w3.frozen? ⟨g', i, none⟩ = false := by
                      obtain ⟨g', _, e, _, _, h4, h5⟩ := HO3.out.at_ (k := i) (by simp; omega)
                      injection e with e _ _; injection e with e; injection e with e _ _; subst e
                      exact ⟨g3, rfl, by rw [h4]; simp [hQx], h5⟩
                    subst e1
                    obtain ⟨g', e1, c4k, f4k⟩ : ∃ g', g3 = g' ∧ (w3.setCell ⟨g', i, none⟩ (.int .i64 x1)).cell? ⟨g', k, none⟩ = some (.int .i64 z) ∧ (w3.setCell ⟨g', i, none⟩ (.int .i64 x1)).frozen? ⟨g', k, none⟩ = false := by
                      obtain ⟨g', _, e, _, _, h4, h5⟩ := own4.at_ (k := k) (by simp; omega)
                      injection e with e _ _; injection e with e; injection e with e _ _; subst e
                      exact ⟨g3, rfl, by rw [h4]; simp [List.getElem_set, hikn, hzk], h5⟩
                    subst e1
                    have hL5 : ((ints QQ).set i (.int .i64 x1)).set k (.int .i64 zz) = ints ((QQ.set i x1).set k zz) := by simp [ints, List.map_set]
                    rw [hL5] at own5
                    obtain ⟨Q2, hQ2⟩ : ∃ Q2, Q2 = (QQ.set i x1).set k zz := ⟨_, rfl⟩
                    rw [← hQ2] at own5
                    have hQ2l : Q2.length = QQ.length := by rw [hQ2]; simp
                    obtain ⟨d, hqd⟩ : ∃ d : Nat, k - 1 = d := ⟨_, rfl⟩
                    have hdi : (k : Int) - 1 = (d : Int) := by omega
                    have hwd : IntKind.i64.wrap (d : Int) = (d : Int) := IntWalk.i64_in _ (by omega)
                    have hdQ : d < Q2.length := by omega
                    have hdQ' : d < QQ.length := by omega
                    obtain ⟨u, hu⟩ : ∃ u, Q2[d] = u := ⟨_, rfl⟩
                    obtain ⟨g', e1, c5k⟩ : ∃ g', g3 = g' ∧ ((w3.setCell ⟨g3, i, none⟩ (.int .i64 x1)).setCell ⟨g3, k, none⟩ (.int .i64 zz)).cell? ⟨g', k, none⟩ = some (.int .i64 zz) := by
                      obtain ⟨g', _, e, _, _, h4, h5⟩ := own5.at_ (k := k) (by simp; omega)
                      injection e with e _ _; injection e with e; injection e with e _ _; subst e
                      refine ⟨g3, rfl, ?_⟩
                      rw [h4]
                      subst hQ2
                      simp
                    subst e1
                    obtain ⟨g', e1, c5d⟩ : ∃ g', g3 = g' ∧ ((w3.setCell ⟨g3, i, none⟩ (.int .i64 x1)).setCell ⟨g3, k, none⟩ (.int .i64 zz)).cell? ⟨g', d, none⟩ = some (.int .i64 u) := by
                      obtain ⟨g', _, e, _, _, h4, h5⟩ := own5.at_ (k := d) (by simp; omega)
                      injection e with e _ _; injection e with e; injection e with e _ _; subst e
                      refine ⟨g3, rfl, ?_⟩
                      rw [h4]
                      simp [hu]
                    subst e1
                    have hgb : wo.heap.size ≤ g3 := HO3.out.base g3 rfl
                    have hb5 : Below wo.heap.size wo ((w3.setCell ⟨g3, i, none⟩ (.int .i64 x1)).setCell ⟨g3, k, none⟩ (.int .i64 zz)) := (hb3.setCell (p := ⟨g3, i, none⟩) hgb _).setCell (p := ⟨g3, k, none⟩) hgb _
                    have c5x : ((w3.setCell ⟨g3, i, none⟩ (.int .i64 x1)).setCell ⟨g3, k, none⟩ (.int .i64 zz)).cell? ⟨bp, op + i, none⟩ = some (.int .i64 x) := (hb5.cell (p := ⟨bp, op + i, none⟩) (World.block_lt_of_cell? _ _ hcpo)).trans hcpo
                    obtain ⟨w5, hw5⟩ : ∃ w5, w5 = (w3.setCell ⟨g3, i, none⟩ (.int .i64 x1)).setCell ⟨g3, k, none⟩ (.int .i64 zz) := ⟨_, rfl⟩
                    rw [← hw5] at own5 c5k c5d hb5 c5x
                    have HW5 := Lib.hid hw5
                    have HQD := Lib.hid hqd
                    have HO5 := Lib.hid own5
                    have HC : Hid (covS L i = if (zz ≤ u ∧ (k = i + 1 ∨ x - 2 = zz - 1)) then some Q2 else none) := Lib.hid (by
                      refine covS_eq (x := x) (z := z) HXG.out HN.out HK.out hkQ hikn HQQ.out (by rw [hzk]) (by rw [hQ2, hx1, hzz]) hdQ' ?_ hzz hqd
                      subst hQ2
                      exact hu)
                    have c5kH := Lib.hid c5k
                    have c5dH := Lib.hid c5d
                    have c5xH := Lib.hid c5x
                    have hkq : (k : Int) < (L.length : Int) := by omega
                    have hiq : (i : Int) < (L.length : Int) := by omega
                    have hdq : (d : Int) < (L.length : Int) := by have := HQL.out; omega
                    clear own4 own5 hw5 hL5 hQ2 hqd hu c5k c5d c5x hQx hzk hwd hdi
                    go_wp2_with fail
                    rw [← HW5.out]
                    have c5k := c5kH.out
                    have c5d := c5dH.out
                    have c5x := c5xH.out
                    have hdi : (k : Int) - 1 = (d : Int) := by have := HQD.out; omega
                    have hwd : IntKind.i64.wrap (d : Int) = (d : Int) := IntWalk.i64_in _ (by omega)
                    obtain ⟨t, hx2⟩ : ∃ t, x - 2 = t := ⟨_, rfl⟩
                    obtain ⟨z2, hz2'⟩ : ∃ z2, zz - 1 = z2 := ⟨_, rfl⟩
                    have hzz' : zz = z + 1 := hzz.symm
                    have hzzb : 1 ≤ zz ∧ zz ≤ 17 := by omega
                    have htb : 0 ≤ t + 2 ∧ t ≤ 16 := by omega
                    have hz2b : 0 ≤ z2 ∧ z2 ≤ 16 := by omega
                    have hwt : IntKind.i64.wrap t = t := IntWalk.i64_in _ (by omega)
                    have hwi1 : IntKind.i64.wrap ((i : Int) + 1) = (i : Int) + 1 := IntWalk.i64_in _ (by omega)
                    have hwz2 : IntKind.i64.wrap z2 = z2 := IntWalk.i64_in _ (by omega)
                    have HCC : Hid (covS L i = if (zz ≤ u ∧ (k = i + 1 ∨ t = z2)) then some Q2 else none) := Lib.hid (by rw [hx2, hz2'] at HC; exact HC.out)
                    clear hzz hzz' hx1 f3i f4k c3i c4k
                    by_cases h1 : zz ≤ u
                    · by_cases h2 : k = i + 1
                      · have h2b : ((k : Int) == (i : Int) + 1) = true := by simp; omega
                        have H2 := Lib.hid h2
                        clear h2
                        refine wp_region_vals [0, 1, 2, 3, 4, 5, 6, 7, 8, 9, 10, 11, 12, 13, 14, 15, 16, 17, 18, 19, 20, 21, 22, 23, 24, 25, 26, 27, 28] [.slice (some ⟨g3, 0, none⟩) L.length c3, .int .i64 (k : Int), .pointer (some ⟨g3, k, none⟩), .int .i64 zz, .slice (some ⟨g3, 0, none⟩) L.length c3, .int .i64 (k : Int), .int .i64 (d : Int), .pointer (some ⟨g3, d, none⟩), .int .i64 u, .bool true, .bool true, .int .i64 (k : Int), .int .i64 (i : Int), .int .i64 ((i : Int) + 1), .bool true, .bool true, undef, undef, undef, undef, undef, undef, undef, undef, undef, undef, undef, .bool true, .bool true] (fun w' => Dr w5 w') _ hmx (fun _ h => h) rfl rfl (by kernel_rfl) (by kernel_rfl) rfl ?steps ?rest
                        case steps =>
                          simp only [putsOfG, Act.put, List.getElem?_toArray, List.getElem?_cons_succ, List.getElem?_cons_zero, Option.bind_some, Nat.reduceAdd, List.setIfInBounds_toArray, List.set_cons_zero, List.set_cons_succ]
                          refine StepsG.cons rfl rfl (fun wq hS => ?_) ?_
                          · have s1 := drCell hS c5k
                            have s2 := drCell hS c5d
                            have s3 := drCell hS c5x
                            go_simp
                          refine StepsG.cons rfl rfl (fun wq hS => ?_) ?_
                          · have s1 := drCell hS c5k
                            have s2 := drCell hS c5d
                            have s3 := drCell hS c5x
                            go_simp
                          refine StepsG.cons rfl rfl (fun wq hS => ?_) ?_
                          · have s1 := drCell hS c5k
                            have s2 := drCell hS c5d
                            have s3 := drCell hS c5x
                            go_simp
                          refine StepsG.cons rfl rfl (fun wq hS => ?_) ?_
                          · have s1 := drCell hS c5k
                            have s2 := drCell hS c5d
                            have s3 := drCell hS c5x
                            go_simp
                          refine StepsG.cons rfl rfl (fun wq hS => ?_) ?_
                          · have s1 := drCell hS c5k
                            have s2 := drCell hS c5d
                            have s3 := drCell hS c5x
                            go_simp
                          refine StepsG.cons rfl rfl (fun wq hS => ?_) ?_
                          · have s1 := drCell hS c5k
                            have s2 := drCell hS c5d
                            have s3 := drCell hS c5x
                            go_simp
                          refine StepsG.cons rfl rfl (fun wq hS => ?_) ?_
                          · have s1 := drCell hS c5k
                            have s2 := drCell hS c5d
                            have s3 := drCell hS c5x
                            go_simp
                          refine StepsG.cons rfl rfl (fun wq hS => ?_) ?_
                          · have s1 := drCell hS c5k
                            have s2 := drCell hS c5d
                            have s3 := drCell hS c5x
                            go_simp
                          refine StepsG.cons rfl rfl (fun wq hS => ?_) ?_
                          · have s1 := drCell hS c5k
                            have s2 := drCell hS c5d
                            have s3 := drCell hS c5x
                            go_simp
                          refine StepsG.cons rfl rfl (fun wq hS => ?_) ?_
                          · have s1 := drCell hS c5k
                            have s2 := drCell hS c5d
                            have s3 := drCell hS c5x
                            go_simp
                          refine StepsG.cons rfl rfl (fun wq hS => ?_) ?_
                          · have s1 := drCell hS c5k
                            have s2 := drCell hS c5d
                            have s3 := drCell hS c5x
                            go_simp
                          refine StepsG.cons rfl rfl (fun wq hS => ?_) ?_
                          · have s1 := drCell hS c5k
                            have s2 := drCell hS c5d
                            have s3 := drCell hS c5x
                            go_simp
                          refine StepsG.cons rfl rfl (fun wq hS => ?_) ?_
                          · have s1 := drCell hS c5k
                            have s2 := drCell hS c5d
                            have s3 := drCell hS c5x
                            go_simp
                          refine StepsG.cons rfl rfl (fun wq hS => ?_) ?_
                          · have s1 := drCell hS c5k
                            have s2 := drCell hS c5d
                            have s3 := drCell hS c5x
                            go_simp
                          refine StepsG.cons rfl rfl (fun wq hS => ?_) ?_
                          · have s1 := drCell hS c5k
                            have s2 := drCell hS c5d
                            have s3 := drCell hS c5x
                            go_simp
                          refine StepsG.cons rfl rfl (fun wq hS => ?_) ?_
                          · have s1 := drCell hS c5k
                            have s2 := drCell hS c5d
                            have s3 := drCell hS c5x
                            go_simp
                          refine StepsG.skip rfl rfl rfl ?_
                          refine StepsG.skip rfl rfl rfl ?_
                          refine StepsG.skip rfl rfl rfl ?_
                          refine StepsG.skip rfl rfl rfl ?_
                          refine StepsG.skip rfl rfl rfl ?_
                          refine StepsG.skip rfl rfl rfl ?_
                          refine StepsG.skip rfl rfl rfl ?_
                          refine StepsG.skip rfl rfl rfl ?_
                          refine StepsG.skip rfl rfl rfl ?_
                          refine StepsG.skip rfl rfl rfl ?_
                          refine StepsG.skip rfl rfl rfl ?_
                          refine StepsG.cons rfl rfl (fun wq hS => ?_) ?_
                          · have s1 := drCell hS c5k
                            have s2 := drCell hS c5d
                            have s3 := drCell hS c5x
                            go_simp
                          refine StepsG.cons rfl rfl (fun wq hS => ?_) ?_
                          · have s1 := drCell hS c5k
                            have s2 := drCell hS c5d
                            have s3 := drCell hS c5x
                            go_simp
                          exact StepsG.nil
                        case rest =>
                          intro wq hS
                          simp only [putsOfG, Act.put, List.getElem?_toArray, List.getElem?_cons_succ, List.getElem?_cons_zero, Option.bind_some, Nat.reduceAdd, List.setIfInBounds_toArray, List.set_cons_zero, List.set_cons_succ]
                          obtain ⟨w6, hw6⟩ : ∃ w6, w6 = wq := ⟨_, rfl⟩
                          rw [← hw6]
                          have hb6 : Below wo.heap.size wo w6 := by rw [hw6]; exact hb5.trans (hS.below _)
                          have HRW := Lib.hid (show Own w6 wo.heap.size w6.heap.size 3 (.slice (some ⟨g3, 0, none⟩) L.length c3) (ints Q2) by rw [hw6]; exact (HO5.out.dr hS).more)
                          have HCV : Hid (covS L i = some Q2) := Lib.hid (by rw [HCC.out, if_pos ⟨h1, .inl H2.out⟩])
                          have hz6 := hb6.size
                          clear hw6 hS c5k c5d c5x
                          go_wp2_with (at_builtin; refine wpList_append_o _ rfl (.tmp 121) (.tmp 123) 23 rfl w.heap.size wo.heap.size 22 i1 (.slice none 0 0) 24 Try.underlying23 hj hy0 hy1 hy2 rfl _ us rfl ((HO.out.outer.below hb6).alloc _) (w6.heap.size + 1) (some ⟨w6.heap.size, 0, none⟩) 1 1 [.slice (some ⟨g3, 0, none⟩) L.length c3] rfl (Rd.one w6 _ _) rfl (by intro u hu; rw [List.mem_singleton.1 hu]; rfl) (by unfold maxLen; have := HUL.out; omega) (by have := HUL.out; omega) (by rw [World.size_alloc]; omega) ?_; intro v' w7 ho7 hg7 hat7)
                          go_roundw
                          case rel =>
                            refine ⟨i + 1, us ++ [.slice (some ⟨g3, 0, none⟩) L.length c3], by omega, by go_num, ((hbr.trans (hb6.mono hzo)).alloc (by omega) _).grown hg7 (by rw [World.size_alloc]; omega) (fun g e => HO.out.outer.base g e), ?_⟩
                            rw [covU_yes HCV.out]
                            exact ((HO.out.below hb6).below ((Below.refl _ _).alloc (by omega) _)).append (HRW.out.alloc _) (Nat.le_refl _) (by omega) ho7 hg7 hat7
                          case measure => simp [intOf]; omega
                      · have h2b : ((k : Int) == (i : Int) + 1) = false := by simp; omega
                        have H2 := Lib.hid h2
                        clear h2
                        by_cases h3 : t = z2
                        · have h3b : (t == z2) = true := by simp [h3]
                          have H3 := Lib.hid h3
                          clear h3
                          refine wp_region_vals [0, 1, 2, 3, 4, 5, 6, 7, 8, 9, 10, 11, 12, 13, 14, 15, 16, 17, 18, 19, 20, 21, 22, 23, 24, 25, 26, 27, 28] [.slice (some ⟨g3, 0, none⟩) L.length c3, .int .i64 (k : Int), .pointer (some ⟨g3, k, none⟩), .int .i64 zz, .slice (some ⟨g3, 0, none⟩) L.length c3, .int .i64 (k : Int), .int .i64 (d : Int), .pointer (some ⟨g3, d, none⟩), .int .i64 u, .bool true, .bool true, .int .i64 (k : Int), .int .i64 (i : Int), .int .i64 ((i : Int) + 1), .bool false, .bool false, .slice (some ⟨bp, op, none⟩) L.length c, .int .i64 (i : Int), .pointer (some ⟨bp, op + i, none⟩), .int .i64 x, .int .i64 t, .slice (some ⟨g3, 0, none⟩) L.length c3, .int .i64 (k : Int), .pointer (some ⟨g3, k, none⟩), .int .i64 zz, .int .i64 z2, .bool true, .bool true, .bool true] (fun w' => Dr w5 w') _ hmx (fun _ h => h) rfl rfl (by kernel_rfl) (by kernel_rfl) rfl ?steps ?rest
                          case steps =>
                            simp only [putsOfG, Act.put, List.getElem?_toArray, List.getElem?_cons_succ, List.getElem?_cons_zero, Option.bind_some, Nat.reduceAdd, List.setIfInBounds_toArray, List.set_cons_zero, List.set_cons_succ]
                            refine StepsG.cons rfl rfl (fun wq hS => ?_) ?_
                            · have s1 := drCell hS c5k
                              have s2 := drCell hS c5d
                              have s3 := drCell hS c5x
                              go_simp
                            refine StepsG.cons rfl rfl (fun wq hS => ?_) ?_
                            · have s1 := drCell hS c5k
                              have s2 := drCell hS c5d
                              have s3 := drCell hS c5x
                              go_simp
                            refine StepsG.cons rfl rfl (fun wq hS => ?_) ?_
                            · have s1 := drCell hS c5k
                              have s2 := drCell hS c5d
                              have s3 := drCell hS c5x
                              go_simp
                            refine StepsG.cons rfl rfl (fun wq hS => ?_) ?_
                            · have s1 := drCell hS c5k
                              have s2 := drCell hS c5d
                              have s3 := drCell hS c5x
                              go_simp
                            refine StepsG.cons rfl rfl (fun wq hS => ?_) ?_
                            · have s1 := drCell hS c5k
                              have s2 := drCell hS c5d
                              have s3 := drCell hS c5x
                              go_simp
                            refine StepsG.cons rfl rfl (fun wq hS => ?_) ?_
                            · have s1 := drCell hS c5k
                              have s2 := drCell hS c5d
                              have s3 := drCell hS c5x
                              go_simp
                            refine StepsG.cons rfl rfl (fun wq hS => ?_) ?_
                            · have s1 := drCell hS c5k
                              have s2 := drCell hS c5d
                              have s3 := drCell hS c5x
                              go_simp
                            refine StepsG.cons rfl rfl (fun wq hS => ?_) ?_
                            · have s1 := drCell hS c5k
                              have s2 := drCell hS c5d
                              have s3 := drCell hS c5x
                              go_simp
                            refine StepsG.cons rfl rfl (fun wq hS => ?_) ?_
                            · have s1 := drCell hS c5k
                              have s2 := drCell hS c5d
                              have s3 := drCell hS c5x
                              go_simp
                            refine StepsG.cons rfl rfl (fun wq hS => ?_) ?_
                            · have s1 := drCell hS c5k
                              have s2 := drCell hS c5d
                              have s3 := drCell hS c5x
                              go_simp
                            refine StepsG.cons rfl rfl (fun wq hS => ?_) ?_
                            · have s1 := drCell hS c5k
                              have s2 := drCell hS c5d
                              have s3 := drCell hS c5x
                              go_simp
                            refine StepsG.cons rfl rfl (fun wq hS => ?_) ?_
                            · have s1 := drCell hS c5k
                              have s2 := drCell hS c5d
                              have s3 := drCell hS c5x
                              go_simp
                            refine StepsG.cons rfl rfl (fun wq hS => ?_) ?_
                            · have s1 := drCell hS c5k
                              have s2 := drCell hS c5d
                              have s3 := drCell hS c5x
                              go_simp
                            refine StepsG.cons rfl rfl (fun wq hS => ?_) ?_
                            · have s1 := drCell hS c5k
                              have s2 := drCell hS c5d
                              have s3 := drCell hS c5x
                              go_simp
                            refine StepsG.cons rfl rfl (fun wq hS => ?_) ?_
                            · have s1 := drCell hS c5k
                              have s2 := drCell hS c5d
                              have s3 := drCell hS c5x
                              go_simp
                            refine StepsG.cons rfl rfl (fun wq hS => ?_) ?_
                            · have s1 := drCell hS c5k
                              have s2 := drCell hS c5d
                              have s3 := drCell hS c5x
                              go_simp
                            refine StepsG.cons rfl rfl (fun wq hS => ?_) ?_
                            · have s1 := drCell hS c5k
                              have s2 := drCell hS c5d
                              have s3 := drCell hS c5x
                              go_simp
                            refine StepsG.cons rfl rfl (fun wq hS => ?_) ?_
                            · have s1 := drCell hS c5k
                              have s2 := drCell hS c5d
                              have s3 := drCell hS c5x
                              go_simp
                            refine StepsG.cons rfl rfl (fun wq hS => ?_) ?_
                            · have s1 := drCell hS c5k
                              have s2 := drCell hS c5d
                              have s3 := drCell hS c5x
                              go_simp
                            refine StepsG.cons rfl rfl (fun wq hS => ?_) ?_
                            · have s1 := drCell hS c5k
                              have s2 := drCell hS c5d
                              have s3 := drCell hS c5x
                              go_simp
                            refine StepsG.cons rfl rfl (fun wq hS => ?_) ?_
                            · have s1 := drCell hS c5k
                              have s2 := drCell hS c5d
                              have s3 := drCell hS c5x
                              go_simp
                            refine StepsG.cons rfl rfl (fun wq hS => ?_) ?_
                            · have s1 := drCell hS c5k
                              have s2 := drCell hS c5d
                              have s3 := drCell hS c5x
                              go_simp
                            refine StepsG.cons rfl rfl (fun wq hS => ?_) ?_
                            · have s1 := drCell hS c5k
                              have s2 := drCell hS c5d
                              have s3 := drCell hS c5x
                              go_simp
                            refine StepsG.cons rfl rfl (fun wq hS => ?_) ?_
                            · have s1 := drCell hS c5k
                              have s2 := drCell hS c5d
                              have s3 := drCell hS c5x
                              go_simp
                            refine StepsG.cons rfl rfl (fun wq hS => ?_) ?_
                            · have s1 := drCell hS c5k
                              have s2 := drCell hS c5d
                              have s3 := drCell hS c5x
                              go_simp
                            refine StepsG.cons rfl rfl (fun wq hS => ?_) ?_
                            · have s1 := drCell hS c5k
                              have s2 := drCell hS c5d
                              have s3 := drCell hS c5x
                              go_simp
                            refine StepsG.cons rfl rfl (fun wq hS => ?_) ?_
                            · have s1 := drCell hS c5k
                              have s2 := drCell hS c5d
                              have s3 := drCell hS c5x
                              go_simp
                            refine StepsG.cons rfl rfl (fun wq hS => ?_) ?_
                            · have s1 := drCell hS c5k
                              have s2 := drCell hS c5d
                              have s3 := drCell hS c5x
                              go_simp
                            refine StepsG.cons rfl rfl (fun wq hS => ?_) ?_
                            · have s1 := drCell hS c5k
                              have s2 := drCell hS c5d
                              have s3 := drCell hS c5x
                              go_simp
                            exact StepsG.nil
                          case rest =>
                            intro wq hS
                            simp only [putsOfG, Act.put, List.getElem?_toArray, List.getElem?_cons_succ, List.getElem?_cons_zero, Option.bind_some, Nat.reduceAdd, List.setIfInBounds_toArray, List.set_cons_zero, List.set_cons_succ]
                            obtain ⟨w6, hw6⟩ : ∃ w6, w6 = wq := ⟨_, rfl⟩
                            rw [← hw6]
                            have hb6 : Below wo.heap.size wo w6 := by rw [hw6]; exact hb5.trans (hS.below _)
                            have HRW := Lib.hid (show Own w6 wo.heap.size w6.heap.size 3 (.slice (some ⟨g3, 0, none⟩) L.length c3) (ints Q2) by rw [hw6]; exact (HO5.out.dr hS).more)
                            have HCV : Hid (covS L i = some Q2) := Lib.hid (by rw [HCC.out, if_pos ⟨h1, .inr H3.out⟩])
                            have hz6 := hb6.size
                            clear hw6 hS c5k c5d c5x
                            go_wp2_with (at_builtin; refine wpList_append_o _ rfl (.tmp 121) (.tmp 123) 23 rfl w.heap.size wo.heap.size 22 i1 (.slice none 0 0) 24 Try.underlying23 hj hy0 hy1 hy2 rfl _ us rfl ((HO.out.outer.below hb6).alloc _) (w6.heap.size + 1) (some ⟨w6.heap.size, 0, none⟩) 1 1 [.slice (some ⟨g3, 0, none⟩) L.length c3] rfl (Rd.one w6 _ _) rfl (by intro u hu; rw [List.mem_singleton.1 hu]; rfl) (by unfold maxLen; have := HUL.out; omega) (by have := HUL.out; omega) (by rw [World.size_alloc]; omega) ?_; intro v' w7 ho7 hg7 hat7)
                            go_roundw
                            case rel =>
                              refine ⟨i + 1, us ++ [.slice (some ⟨g3, 0, none⟩) L.length c3], by omega, by go_num, ((hbr.trans (hb6.mono hzo)).alloc (by omega) _).grown hg7 (by rw [World.size_alloc]; omega) (fun g e => HO.out.outer.base g e), ?_⟩
                              rw [covU_yes HCV.out]
                              exact ((HO.out.below hb6).below ((Below.refl _ _).alloc (by omega) _)).append (HRW.out.alloc _) (Nat.le_refl _) (by omega) ho7 hg7 hat7
                            case measure => simp [intOf]; omega
                        · have h3b : (t == z2) = false := by simp [h3]
                          have H3 := Lib.hid h3
                          clear h3
                          refine wp_region_vals [0, 1, 2, 3, 4, 5, 6, 7, 8, 9, 10, 11, 12, 13, 14, 15, 16, 17, 18, 19, 20, 21, 22, 23, 24, 25, 26, 27, 28] [.slice (some ⟨g3, 0, none⟩) L.length c3, .int .i64 (k : Int), .pointer (some ⟨g3, k, none⟩), .int .i64 zz, .slice (some ⟨g3, 0, none⟩) L.length c3, .int .i64 (k : Int), .int .i64 (d : Int), .pointer (some ⟨g3, d, none⟩), .int .i64 u, .bool true, .bool true, .int .i64 (k : Int), .int .i64 (i : Int), .int .i64 ((i : Int) + 1), .bool false, .bool false, .slice (some ⟨bp, op, none⟩) L.length c, .int .i64 (i : Int), .pointer (some ⟨bp, op + i, none⟩), .int .i64 x, .int .i64 t, .slice (some ⟨g3, 0, none⟩) L.length c3, .int .i64 (k : Int), .pointer (some ⟨g3, k, none⟩), .int .i64 zz, .int .i64 z2, .bool false, .bool false, .bool false] (fun w' => Dr w5 w') _ hmx (fun _ h => h) rfl rfl (by kernel_rfl) (by kernel_rfl) rfl ?steps ?rest
                          case steps =>
                            simp only [putsOfG, Act.put, List.getElem?_toArray, List.getElem?_cons_succ, List.getElem?_cons_zero, Option.bind_some, Nat.reduceAdd, List.setIfInBounds_toArray, List.set_cons_zero, List.set_cons_succ]
                            refine StepsG.cons rfl rfl (fun wq hS => ?_) ?_
                            · have s1 := drCell hS c5k
                              have s2 := drCell hS c5d
                              have s3 := drCell hS c5x
                              go_simp
                            refine StepsG.cons rfl rfl (fun wq hS => ?_) ?_
                            · have s1 := drCell hS c5k
                              have s2 := drCell hS c5d
                              have s3 := drCell hS c5x
                              go_simp
                            refine StepsG.cons rfl rfl (fun wq hS => ?_) ?_
                            · have s1 := drCell hS c5k
                              have s2 := drCell hS c5d
                              have s3 := drCell hS c5x
                              go_simp
                            refine StepsG.cons rfl rfl (fun wq hS => ?_) ?_
                            · have s1 := drCell hS c5k
                              have s2 := drCell hS c5d
                              have s3 := drCell hS c5x
                              go_simp
                            refine StepsG.cons rfl rfl (fun wq hS => ?_) ?_
                            · have s1 := drCell hS c5k
                              have s2 := drCell hS c5d
                              have s3 := drCell hS c5x
                              go_simp
                            refine StepsG.cons rfl rfl (fun wq hS => ?_) ?_
                            · have s1 := drCell hS c5k
                              have s2 := drCell hS c5d
                              have s3 := drCell hS c5x
                              go_simp
                            refine StepsG.cons rfl rfl (fun wq hS => ?_) ?_
                            · have s1 := drCell hS c5k
                              have s2 := drCell hS c5d
                              have s3 := drCell hS c5x
                              go_simp
                            refine StepsG.cons rfl rfl (fun wq hS => ?_) ?_
                            · have s1 := drCell hS c5k
                              have s2 := drCell hS c5d
                              have s3 := drCell hS c5x
                              go_simp
                            refine StepsG.cons rfl rfl (fun wq hS => ?_) ?_
                            · have s1 := drCell hS c5k
                              have s2 := drCell hS c5d
                              have s3 := drCell hS c5x
                              go_simp
                            refine StepsG.cons rfl rfl (fun wq hS => ?_) ?_
                            · have s1 := drCell hS c5k
                              have s2 := drCell hS c5d
                              have s3 := drCell hS c5x
                              go_simp
                            refine StepsG.cons rfl rfl (fun wq hS => ?_) ?_
                            · have s1 := drCell hS c5k
                              have s2 := drCell hS c5d
                              have s3 := drCell hS c5x
                              go_simp
                            refine StepsG.cons rfl rfl (fun wq hS => ?_) ?_
                            · have s1 := drCell hS c5k
                              have s2 := drCell hS c5d
                              have s3 := drCell hS c5x
                              go_simp
                            refine StepsG.cons rfl rfl (fun wq hS => ?_) ?_
                            · have s1 := drCell hS c5k
                              have s2 := drCell hS c5d
                              have s3 := drCell hS c5x
                              go_simp
                            refine StepsG.cons rfl rfl (fun wq hS => ?_) ?_
                            · have s1 := drCell hS c5k
                              have s2 := drCell hS c5d
                              have s3 := drCell hS c5x
                              go_simp
                            refine StepsG.cons rfl rfl (fun wq hS => ?_) ?_
                            · have s1 := drCell hS c5k
                              have s2 := drCell hS c5d
                              have s3 := drCell hS c5x
                              go_simp
                            refine StepsG.cons rfl rfl (fun wq hS => ?_) ?_
                            · have s1 := drCell hS c5k
                              have s2 := drCell hS c5d
                              have s3 := drCell hS c5x
                              go_simp
                            refine StepsG.cons rfl rfl (fun wq hS => ?_) ?_
                            · have s1 := drCell hS c5k
                              have s2 := drCell hS c5d
                              have s3 := drCell hS c5x
                              go_simp
                            refine StepsG.cons rfl rfl (fun wq hS => ?_) ?_
                            · have s1 := drCell hS c5k
                              have s2 := drCell hS c5d
                              have s3 := drCell hS c5x
                              go_simp
                            refine StepsG.cons rfl rfl (fun wq hS => ?_) ?_
                            · have s1 := drCell hS c5k
                              have s2 := drCell hS c5d
                              have s3 := drCell hS c5x
                              go_simp
                            refine StepsG.cons rfl rfl (fun wq hS => ?_) ?_
                            · have s1 := drCell hS c5k
                              have s2 := drCell hS c5d
                              have s3 := drCell hS c5x
                              go_simp
                            refine StepsG.cons rfl rfl (fun wq hS => ?_) ?_
                            · have s1 := drCell hS c5k
                              have s2 := drCell hS c5d
                              have s3 := drCell hS c5x
                              go_simp
                            refine StepsG.cons rfl rfl (fun wq hS => ?_) ?_
                            · have s1 := drCell hS c5k
                              have s2 := drCell hS c5d
                              have s3 := drCell hS c5x
                              go_simp
                            refine StepsG.cons rfl rfl (fun wq hS => ?_) ?_
                            · have s1 := drCell hS c5k
                              have s2 := drCell hS c5d
                              have s3 := drCell hS c5x
                              go_simp
                            refine StepsG.cons rfl rfl (fun wq hS => ?_) ?_
                            · have s1 := drCell hS c5k
                              have s2 := drCell hS c5d
                              have s3 := drCell hS c5x
                              go_simp
                            refine StepsG.cons rfl rfl (fun wq hS => ?_) ?_
                            · have s1 := drCell hS c5k
                              have s2 := drCell hS c5d
                              have s3 := drCell hS c5x
                              go_simp
                            refine StepsG.cons rfl rfl (fun wq hS => ?_) ?_
                            · have s1 := drCell hS c5k
                              have s2 := drCell hS c5d
                              have s3 := drCell hS c5x
                              go_simp
                            refine StepsG.cons rfl rfl (fun wq hS => ?_) ?_
                            · have s1 := drCell hS c5k
                              have s2 := drCell hS c5d
                              have s3 := drCell hS c5x
                              go_simp
                            refine StepsG.cons rfl rfl (fun wq hS => ?_) ?_
                            · have s1 := drCell hS c5k
                              have s2 := drCell hS c5d
                              have s3 := drCell hS c5x
                              go_simp
                            refine StepsG.cons rfl rfl (fun wq hS => ?_) ?_
                            · have s1 := drCell hS c5k
                              have s2 := drCell hS c5d
                              have s3 := drCell hS c5x
                              go_simp
                            exact StepsG.nil
                          case rest =>
                            intro wq hS
                            simp only [putsOfG, Act.put, List.getElem?_toArray, List.getElem?_cons_succ, List.getElem?_cons_zero, Option.bind_some, Nat.reduceAdd, List.setIfInBounds_toArray, List.set_cons_zero, List.set_cons_succ]
                            go_wp2_with fail
                            go_roundw
                            case rel => exact ⟨i + 1, us, by omega, by go_num, hbr.trans ((hb5.trans (hS.below _)).mono hzo), by rw [covU_no (by rw [HCC.out, if_neg (fun h => h.2.elim H2.out H3.out)])]; exact (HO.out.below (hb5.trans (hS.below _))).more⟩
                            case measure => simp [intOf]; omega
                    · have h1' : u < zz := by omega
                      go_quiet (fail)
                      go_wp2_with fail
                      go_roundw
                      case rel => exact ⟨i + 1, us, by omega, by go_num, hbr.trans ((hb5.trans ((Dr.n w5 _).below _)).mono hzo), by rw [covU_no (by rw [HCC.out, if_neg (fun h => h1 h.1)])]; exact (HO.out.below (hb5.trans ((Dr.n w5 _).below _))).more⟩
                      case measure => simp [intOf]; omega
              · omega
          · have hkn' : (L.length : Int) ≤ (k : Int) := by omega
            have HK : Hid (runK L i = k) := Lib.hid (runK_eq hlt hk1 hk (fun r hr h1 h2 => by rw [HXG.out]; exact HP.out r hr h1 h2) (.inl (by omega)))
            go_wp2_with fail
            go_quiet (fail)
            go_wp2_with fail
            obtain ⟨wd, hwd0⟩ : ∃ wd, wd = wr.drewN nq := ⟨_, rfl⟩
            rw [← hwd0]
            have hdd : Dr w2 wd := by rw [hwd0]; exact hdr.drewN nq
            have hbd : Below wo.heap.size wo wd := hb2.trans (hdd.below _)
            clear hwd0 hcxr hdr
            have hcxd : wd.cell? ⟨bp, op + i, none⟩ = some (.int .i64 x) := drCell hdd hcx2
            have hi1 : (i : Int) + 1 < 18 := by omega
            have hkl : ((k : Int) == (L.length : Int)) = true := by simp; omega
            by_cases hi2 : i + 1 < L.length
            · have hi2' : (i : Int) + 1 < (L.length : Int) := by omega
              obtain ⟨y1, hy1e, hy1g, hy1b, hy1c⟩ := HXB.out (i + 1) hi2
              have hcy : wd.cell? ⟨bp, op + (i + 1), none⟩ = some (.int .i64 y1) := by
                have := drCell hdd (HCELL.out (i + 1) hi2)
                rw [this, hy1e]
              obtain ⟨d1, hd1⟩ : ∃ d1, i + 1 = d1 := ⟨_, rfl⟩
              have hd1i : (i : Int) + 1 = (d1 : Int) := by omega
              have hwd1 : IntKind.i64.wrap (d1 : Int) = (d1 : Int) := IntWalk.i64_in _ (by omega)
              rw [hd1] at hcy
              have hd1l : d1 < L.length := by omega
              have hd1l' : (d1 : Int) < (L.length : Int) := by omega
              have HD1 := Lib.hid hd1
              have HY1 := Lib.hid hy1g
              clear hd1 hy1e hy1g hi2'
              by_cases hxy : x = y1
              · have hxyb : (x == y1) = true := by simp [hxy]
                have HXY := Lib.hid hxy
                clear hxy
                go_quiet (fail)
                go_wp2_with fail
                go_roundw
                case rel => exact ⟨i + 1, us, by omega, by go_num, hbr.trans ((hbd.trans ((Dr.n wd _).below _)).mono hzo), by rw [covU_no (covS_no (.inl ⟨by have := HD1.out; omega, by rw [HXG.out, HY1.out, HXY.out]⟩))]; exact (HO.out.below (hbd.trans ((Dr.n wd _).below _))).more⟩
                case measure => simp [intOf]; omega
              · have hxyb : (x == y1) = false := by simp [hxy]
                by_cases hx2 : x < 2
                · go_quiet (fail)
                  go_wp2_with fail
                  go_roundw
                  case rel => exact ⟨i + 1, us, by omega, by go_num, hbr.trans ((hbd.trans ((Dr.n wd _).below _)).mono hzo), by rw [covU_no (covS_no (.inr (by rw [HXG.out]; exact hx2)))]; exact (HO.out.below (hbd.trans ((Dr.n wd _).below _))).more⟩
                  case measure => simp [intOf]; omega
                · have hx2' : 2 ≤ x := by omega
                  go_quiet (fail)
                  try clear hd1i hwd1
                  obtain ⟨we, hwe⟩ : ∃ we, we = wd.drewN nq := ⟨_, rfl⟩
                  rw [← hwe]
                  have hbe : Below wo.heap.size wo we := by rw [hwe]; exact hbd.trans ((Dr.n wd nq).below _)
                  have HOE := Lib.hid (show Own we wo.heap.size w2.heap.size 3 (.slice (some ⟨gq, 0, none⟩) L.length cq) (ints L) by rw [hwe]; exact (HO2.out.dr hdd).dr (Dr.n wd nq))
                  have hzz2 : w2.heap.size ≤ we.heap.size := HOE.out.le
                  have hze := hbe.size
                  have HN : Hid (¬((i + 1 < L.length ∧ L.getD i 0 = L.getD (i + 1) 0) ∨ L.getD i 0 < 2)) := Lib.hid (by rintro (⟨_, h2⟩ | h2); exact hxy (by rw [HXG.out, HY1.out] at h2; exact h2); rw [HXG.out] at h2; omega)
                  clear hwe
                  go_wp2_with (at_builtin; refine wpList_append_o _ rfl (.tmp 73) (.tmp 74) 22 rfl wo.heap.size w2.heap.size 3 i0 (.int .i64 0) 8 Try.underlying22 hi hz0 hz1 hz2 rfl _ (ints L) rfl (HOE.out.alloc _) (we.heap.size + 1) (some ⟨we.heap.size, 0, none⟩) 1 1 [.int .i64 0] rfl (Rd.one we _ _) rfl (by simp; rfl) (by rw [HLI.out]; unfold maxLen; omega) (by rw [HLI.out]; omega) (by rw [World.size_alloc]; omega) ?_; intro v3 w3 ho3 hg3 hat3)
                  have hb3 : Below wo.heap.size wo w3 := (hbe.alloc hze _).grown hg3 (by rw [World.size_alloc]; omega) (fun g e => HOE.out.base g e)
                  have hvs : ints L ++ [Value.int .i64 0] = ints (L ++ [0]) := by simp [ints]
                  rw [hvs] at ho3
                  clear hvs
                  obtain ⟨QQ, hQQ⟩ : ∃ QQ, QQ = L ++ [0] := ⟨_, rfl⟩
                  rw [← hQQ] at ho3
                  have HQQ : Hid (QQ = if k = L.length then L ++ [0] else L) := Lib.hid (by rw [if_pos (by omega), hQQ])
                  have hkQ : k < QQ.length := by rw [hQQ, List.length_append]; simp; omega
                  have HQB : Hid (∀ j (hj : j < QQ.length), 0 ≤ QQ[j] ∧ QQ[j] ≤ 16) := Lib.hid (by
                    intro j hj
                    subst hQQ
                    by_cases hjl : j < L.length
                    · rw [List.getElem_append_left hjl]; obtain ⟨y, hy, -, h1, h2⟩ := HXB.out j hjl; omega
                    · rw [List.getElem_append_right (by omega)]; simp)
                  have hQx : QQ[i]'(by omega) = x := by
                    subst hQQ
                    rw [List.getElem_append_left hlt]
                    exact HX.out
                  obtain ⟨g3, c3, rfl, hc3⟩ := ho3.formN (by simp; omega)
                  have hl3 : (ints QQ).length = QQ.length := by simp
                  rw [hl3] at ho3 hc3 ⊢
                  have hq17 : QQ.length ≤ 17 := by rw [hQQ, List.length_append]; simp; omega
                  have HO3 := Lib.hid ho3
                  have HQL : Hid (QQ.length = QQ.length) := Lib.hid rfl
                  clear ho3 hQQ hg3 hat3
                  obtain ⟨z, hzk⟩ : ∃ z, QQ[k] = z := ⟨_, rfl⟩
                  have hzb := HQB.out k hkQ
                  rw [hzk] at hzb
                  obtain ⟨x1, hx1⟩ : ∃ x1, x - 1 = x1 := ⟨_, rfl⟩
                  obtain ⟨zz, hzz⟩ : ∃ zz, z + 1 = zz := ⟨_, rfl⟩
                  have hikn : i ≠ k := by omega
                  have own4 := HO3.out.set i (.int .i64 x1)
                  have own5 := own4.set k (.int .i64 zz)
                  obtain ⟨g', e1, c3i, f3i⟩ : ∃ g', g3 = g' ∧ w3.cell? ⟨g', i, none⟩ = some (.int .i64 x) ∧ w3.frozen? ⟨g', i, none⟩ = false := by
                    obtain ⟨g', _, e, _, _, h4, h5⟩ := HO3.out.at_ (k := i) (by simp; omega)
                    injection e with e _ _; injection e with e; injection e with e _ _; subst e
                    exact ⟨g3, rfl, by rw [h4]; simp [hQx], h5⟩
                  subst e1
                  obtain ⟨g', e1, c4k, f4k⟩ : ∃ g', g3 = g' ∧ (w3.setCell ⟨g', i, none⟩ (.int .i64 x1)).cell? ⟨g', k, none⟩ = some (.int .i64 z) ∧ (w3.setCell ⟨g', i, none⟩ (.int .i64 x1)).frozen? ⟨g', k, none⟩ = false := by
                    obtain ⟨g', _, e, _, _, h4, h5⟩ := own4.at_ (k := k) (by simp; omega)
                    injection e with e _ _; injection e with e; injection e with e _ _; subst e
                    exact ⟨g3, rfl, by rw [h4]; simp [List.getElem_set, hikn, hzk], h5⟩
                  subst e1
                  have hL5 : ((ints QQ).set i (.int .i64 x1)).set k (.int .i64 zz) = ints ((QQ.set i x1).set k zz) := by simp [ints, List.map_set]
                  rw [hL5] at own5
                  obtain ⟨Q2, hQ2⟩ : ∃ Q2, Q2 = (QQ.set i x1).set k zz := ⟨_, rfl⟩
                  rw [← hQ2] at own5
                  have hQ2l : Q2.length = QQ.length := by rw [hQ2]; simp
                  obtain ⟨d, hqd⟩ : ∃ d : Nat, k - 1 = d := ⟨_, rfl⟩
                  have hdi : (k : Int) - 1 = (d : Int) := by omega
                  have hwd : IntKind.i64.wrap (d : Int) = (d : Int) := IntWalk.i64_in _ (by omega)
                  have hdQ : d < Q2.length := by omega
                  have hdQ' : d < QQ.length := by omega
                  obtain ⟨u, hu⟩ : ∃ u, Q2[d] = u := ⟨_, rfl⟩
                  obtain ⟨g', e1, c5k⟩ : ∃ g', g3 = g' ∧ ((w3.setCell ⟨g3, i, none⟩ (.int .i64 x1)).setCell ⟨g3, k, none⟩ (.int .i64 zz)).cell? ⟨g', k, none⟩ = some (.int .i64 zz) := by
                    obtain ⟨g', _, e, _, _, h4, h5⟩ := own5.at_ (k := k) (by simp; omega)
                    injection e with e _ _; injection e with e; injection e with e _ _; subst e
                    refine ⟨g3, rfl, ?_⟩
                    rw [h4]
                    subst hQ2
                    simp
                  subst e1
                  obtain ⟨g', e1, c5d⟩ : ∃ g', g3 = g' ∧ ((w3.setCell ⟨g3, i, none⟩ (.int .i64 x1)).setCell ⟨g3, k, none⟩ (.int .i64 zz)).cell? ⟨g', d, none⟩ = some (.int .i64 u) := by
                    obtain ⟨g', _, e, _, _, h4, h5⟩ := own5.at_ (k := d) (by simp; omega)
                    injection e with e _ _; injection e with e; injection e with e _ _; subst e
                    refine ⟨g3, rfl, ?_⟩
                    rw [h4]
                    simp [hu]
                  subst e1
                  have hgb : wo.heap.size ≤ g3 := HO3.out.base g3 rfl
                  have hb5 : Below wo.heap.size wo ((w3.setCell ⟨g3, i, none⟩ (.int .i64 x1)).setCell ⟨g3, k, none⟩ (.int .i64 zz)) := (hb3.setCell (p := ⟨g3, i, none⟩) hgb _).setCell (p := ⟨g3, k, none⟩) hgb _
                  have c5x : ((w3.setCell ⟨g3, i, none⟩ (.int .i64 x1)).setCell ⟨g3, k, none⟩ (.int .i64 zz)).cell? ⟨bp, op + i, none⟩ = some (.int .i64 x) := (hb5.cell (p := ⟨bp, op + i, none⟩) (World.block_lt_of_cell? _ _ hcpo)).trans hcpo
                  obtain ⟨w5, hw5⟩ : ∃ w5, w5 = (w3.setCell ⟨g3, i, none⟩ (.int .i64 x1)).setCell ⟨g3, k, none⟩ (.int .i64 zz) := ⟨_, rfl⟩
                  rw [← hw5] at own5 c5k c5d hb5 c5x
                  have HW5 := Lib.hid hw5
                  have HQD := Lib.hid hqd
                  have HO5 := Lib.hid own5
                  have HC : Hid (covS L i = if (zz ≤ u ∧ (k = i + 1 ∨ x - 2 = zz - 1)) then some Q2 else none) := Lib.hid (by
                    refine covS_eq (x := x) (z := z) HXG.out HN.out HK.out hkQ hikn HQQ.out (by rw [hzk]) (by rw [hQ2, hx1, hzz]) hdQ' ?_ hzz hqd
                    subst hQ2
                    exact hu)
                  have c5kH := Lib.hid c5k
                  have c5dH := Lib.hid c5d
                  have c5xH := Lib.hid c5x
                  have hkq : (k : Int) < (QQ.length : Int) := by omega
                  have hiq : (i : Int) < (QQ.length : Int) := by omega
                  have hdq : (d : Int) < (QQ.length : Int) := by have := HQL.out; omega
                  clear own4 own5 hw5 hL5 hQ2 hqd hu c5k c5d c5x hQx hzk hwd hdi
                  go_wp2_with fail
                  rw [← HW5.out]
                  have c5k := c5kH.out
                  have c5d := c5dH.out
                  have c5x := c5xH.out
                  have hdi : (k : Int) - 1 = (d : Int) := by have := HQD.out; omega
                  have hwd : IntKind.i64.wrap (d : Int) = (d : Int) := IntWalk.i64_in _ (by omega)
                  obtain ⟨t, hx2⟩ : ∃ t, x - 2 = t := ⟨_, rfl⟩
                  obtain ⟨z2, hz2'⟩ : ∃ z2, zz - 1 = z2 := ⟨_, rfl⟩
                  have hzz' : zz = z + 1 := hzz.symm
                  have hzzb : 1 ≤ zz ∧ zz ≤ 17 := by omega
                  have htb : 0 ≤ t + 2 ∧ t ≤ 16 := by omega
                  have hz2b : 0 ≤ z2 ∧ z2 ≤ 16 := by omega
                  have hwt : IntKind.i64.wrap t = t := IntWalk.i64_in _ (by omega)
                  have hwi1 : IntKind.i64.wrap ((i : Int) + 1) = (i : Int) + 1 := IntWalk.i64_in _ (by omega)
                  have hwz2 : IntKind.i64.wrap z2 = z2 := IntWalk.i64_in _ (by omega)
                  have HCC : Hid (covS L i = if (zz ≤ u ∧ (k = i + 1 ∨ t = z2)) then some Q2 else none) := Lib.hid (by rw [hx2, hz2'] at HC; exact HC.out)
                  clear hzz hzz' hx1 f3i f4k c3i c4k
                  by_cases h1 : zz ≤ u
                  · by_cases h2 : k = i + 1
                    · have h2b : ((k : Int) == (i : Int) + 1) = true := by simp; omega
                      have H2 := Lib.hid h2
                      clear h2
                      refine wp_region_vals [0, 1, 2, 3, 4, 5, 6, 7, 8, 9, 10, 11, 12, 13, 14, 15, 16, 17, 18, 19, 20, 21, 22, 23, 24, 25, 26, 27, 28] [.slice (some ⟨g3, 0, none⟩) QQ.length c3, .int .i64 (k : Int), .pointer (some ⟨g3, k, none⟩), .int .i64 zz, .slice (some ⟨g3, 0, none⟩) QQ.length c3, .int .i64 (k : Int), .int .i64 (d : Int), .pointer (some ⟨g3, d, none⟩), .int .i64 u, .bool true, .bool true, .int .i64 (k : Int), .int .i64 (i : Int), .int .i64 ((i : Int) + 1), .bool true, .bool true, undef, undef, undef, undef, undef, undef, undef, undef, undef, undef, undef, .bool true, .bool true] (fun w' => Dr w5 w') _ hmx (fun _ h => h) rfl rfl (by kernel_rfl) (by kernel_rfl) rfl ?steps ?rest
                      case steps =>
                        simp only [putsOfG, Act.put, List.getElem?_toArray, List.getElem?_cons_succ, List.getElem?_cons_zero, Option.bind_some, Nat.reduceAdd, List.setIfInBounds_toArray, List.set_cons_zero, List.set_cons_succ]
                        refine StepsG.cons rfl rfl (fun wq hS => ?_) ?_
                        · have s1 := drCell hS c5k
                          have s2 := drCell hS c5d
                          have s3 := drCell hS c5x
                          go_simp
                        refine StepsG.cons rfl rfl (fun wq hS => ?_) ?_
                        · have s1 := drCell hS c5k
                          have s2 := drCell hS c5d
                          have s3 := drCell hS c5x
                          go_simp
                        refine StepsG.cons rfl rfl (fun wq hS => ?_) ?_
                        · have s1 := drCell hS c5k
                          have s2 := drCell hS c5d
                          have s3 := drCell hS c5x
                          go_simp
                        refine StepsG.cons rfl rfl (fun wq hS => ?_) ?_
                        · have s1 := drCell hS c5k
                          have s2 := drCell hS c5d
                          have s3 := drCell hS c5x
                          go_simp
                        refine StepsG.cons rfl rfl (fun wq hS => ?_) ?_
                        · have s1 := drCell hS c5k
                          have s2 := drCell hS c5d
                          have s3 := drCell hS c5x
                          go_simp
                        refine StepsG.cons rfl rfl (fun wq hS => ?_) ?_
                        · have s1 := drCell hS c5k
                          have s2 := drCell hS c5d
                          have s3 := drCell hS c5x
                          go_simp
                        refine StepsG.cons rfl rfl (fun wq hS => ?_) ?_
                        · have s1 := drCell hS c5k
                          have s2 := drCell hS c5d
                          have s3 := drCell hS c5x
                          go_simp
                        refine StepsG.cons rfl rfl (fun wq hS => ?_) ?_
                        · have s1 := drCell hS c5k
                          have s2 := drCell hS c5d
                          have s3 := drCell hS c5x
                          go_simp
                        refine StepsG.cons rfl rfl (fun wq hS => ?_) ?_
                        · have s1 := drCell hS c5k
                          have s2 := drCell hS c5d
                          have s3 := drCell hS c5x
                          go_simp
                        refine StepsG.cons rfl rfl (fun wq hS => ?_) ?_
                        · have s1 := drCell hS c5k
                          have s2 := drCell hS c5d
                          have s3 := drCell hS c5x
                          go_simp
                        refine StepsG.cons rfl rfl (fun wq hS => ?_) ?_
                        · have s1 := drCell hS c5k
                          have s2 := drCell hS c5d
                          have s3 := drCell hS c5x
                          go_simp
                        refine StepsG.cons rfl rfl (fun wq hS => ?_) ?_
                        · have s1 := drCell hS c5k
                          have s2 := drCell hS c5d
                          have s3 := drCell hS c5x
                          go_simp
                        refine StepsG.cons rfl rfl (fun wq hS => ?_) ?_
                        · have s1 := drCell hS c5k
                          have s2 := drCell hS c5d
                          have s3 := drCell hS c5x
                          go_simp
                        refine StepsG.cons rfl rfl (fun wq hS => ?_) ?_
                        · have s1 := drCell hS c5k
                          have s2 := drCell hS c5d
                          have s3 := drCell hS c5x
                          go_simp
                        refine StepsG.cons rfl rfl (fun wq hS => ?_) ?_
                        · have s1 := drCell hS c5k
                          have s2 := drCell hS c5d
                          have s3 := drCell hS c5x
                          go_simp
                        refine StepsG.cons rfl rfl (fun wq hS => ?_) ?_
                        · have s1 := drCell hS c5k
                          have s2 := drCell hS c5d
                          have s3 := drCell hS c5x
                          go_simp
                        refine StepsG.skip rfl rfl rfl ?_
                        refine StepsG.skip rfl rfl rfl ?_
                        refine StepsG.skip rfl rfl rfl ?_
                        refine StepsG.skip rfl rfl rfl ?_
                        refine StepsG.skip rfl rfl rfl ?_
                        refine StepsG.skip rfl rfl rfl ?_
                        refine StepsG.skip rfl rfl rfl ?_
                        refine StepsG.skip rfl rfl rfl ?_
                        refine StepsG.skip rfl rfl rfl ?_
                        refine StepsG.skip rfl rfl rfl ?_
                        refine StepsG.skip rfl rfl rfl ?_
                        refine StepsG.cons rfl rfl (fun wq hS => ?_) ?_
                        · have s1 := drCell hS c5k
                          have s2 := drCell hS c5d
                          have s3 := drCell hS c5x
                          go_simp
                        refine StepsG.cons rfl rfl (fun wq hS => ?_) ?_
                        · have s1 := drCell hS c5k
                          have s2 := drCell hS c5d
                          have s3 := drCell hS c5x
                          go_simp
                        exact StepsG.nil
                      case rest =>
                        intro wq hS
                        simp only [putsOfG, Act.put, List.getElem?_toArray, List.getElem?_cons_succ, List.getElem?_cons_zero, Option.bind_some, Nat.reduceAdd, List.setIfInBounds_toArray, List.set_cons_zero, List.set_cons_succ]
                        obtain ⟨w6, hw6⟩ : ∃ w6, w6 = wq := ⟨_, rfl⟩
                        rw [← hw6]
                        have hb6 : Below wo.heap.size wo w6 := by rw [hw6]; exact hb5.trans (hS.below _)
                        have HRW := Lib.hid (show Own w6 wo.heap.size w6.heap.size 3 (.slice (some ⟨g3, 0, none⟩) QQ.length c3) (ints Q2) by rw [hw6]; exact (HO5.out.dr hS).more)
                        have HCV : Hid (covS L i = some Q2) := Lib.hid (by rw [HCC.out, if_pos ⟨h1, .inl H2.out⟩])
                        have hz6 := hb6.size
                        clear hw6 hS c5k c5d c5x
                        go_wp2_with (at_builtin; refine wpList_append_o _ rfl (.tmp 121) (.tmp 123) 23 rfl w.heap.size wo.heap.size 22 i1 (.slice none 0 0) 24 Try.underlying23 hj hy0 hy1 hy2 rfl _ us rfl ((HO.out.outer.below hb6).alloc _) (w6.heap.size + 1) (some ⟨w6.heap.size, 0, none⟩) 1 1 [.slice (some ⟨g3, 0, none⟩) QQ.length c3] rfl (Rd.one w6 _ _) rfl (by intro u hu; rw [List.mem_singleton.1 hu]; rfl) (by unfold maxLen; have := HUL.out; omega) (by have := HUL.out; omega) (by rw [World.size_alloc]; omega) ?_; intro v' w7 ho7 hg7 hat7)
                        go_roundw
                        case rel =>
                          refine ⟨i + 1, us ++ [.slice (some ⟨g3, 0, none⟩) QQ.length c3], by omega, by go_num, ((hbr.trans (hb6.mono hzo)).alloc (by omega) _).grown hg7 (by rw [World.size_alloc]; omega) (fun g e => HO.out.outer.base g e), ?_⟩
                          rw [covU_yes HCV.out]
                          exact ((HO.out.below hb6).below ((Below.refl _ _).alloc (by omega) _)).append (HRW.out.alloc _) (Nat.le_refl _) (by omega) ho7 hg7 hat7
                        case measure => simp [intOf]; omega
                    · have h2b : ((k : Int) == (i : Int) + 1) = false := by simp; omega
                      have H2 := Lib.hid h2
                      clear h2
                      by_cases h3 : t = z2
                      · have h3b : (t == z2) = true := by simp [h3]
                        have H3 := Lib.hid h3
                        clear h3
                        refine wp_region_vals [0, 1, 2, 3, 4, 5, 6, 7, 8, 9, 10, 11, 12, 13, 14, 15, 16, 17, 18, 19, 20, 21, 22, 23, 24, 25, 26, 27, 28] [.slice (some ⟨g3, 0, none⟩) QQ.length c3, .int .i64 (k : Int), .pointer (some ⟨g3, k, none⟩), .int .i64 zz, .slice (some ⟨g3, 0, none⟩) QQ.length c3, .int .i64 (k : Int), .int .i64 (d : Int), .pointer (some ⟨g3, d, none⟩), .int .i64 u, .bool true, .bool true, .int .i64 (k : Int), .int .i64 (i : Int), .int .i64 ((i : Int) + 1), .bool false, .bool false, .slice (some ⟨bp, op, none⟩) L.length c, .int .i64 (i : Int), .pointer (some ⟨bp, op + i, none⟩), .int .i64 x, .int .i64 t, .slice (some ⟨g3, 0, none⟩) QQ.length c3, .int .i64 (k : Int), .pointer (some ⟨g3, k, none⟩), .int .i64 zz, .int .i64 z2, .bool true, .bool true, .bool true] (fun w' => Dr w5 w') _ hmx (fun _ h => h) rfl rfl (by kernel_rfl) (by kernel_rfl) rfl ?steps ?rest
                        case steps =>
                          simp only [putsOfG, Act.put, List.getElem?_toArray, List.getElem?_cons_succ, List.getElem?_cons_zero, Option.bind_some, Nat.reduceAdd, List.setIfInBounds_toArray, List.set_cons_zero, List.set_cons_succ]
                          refine StepsG.cons rfl rfl (fun wq hS => ?_) ?_
                          · have s1 := drCell hS c5k
                            have s2 := drCell hS c5d
                            have s3 := drCell hS c5x
                            go_simp
                          refine StepsG.cons rfl rfl (fun wq hS => ?_) ?_
                          · have s1 := drCell hS c5k
                            have s2 := drCell hS c5d
                            have s3 := drCell hS c5x
                            go_simp
                          refine StepsG.cons rfl rfl (fun wq hS => ?_) ?_
                          · have s1 := drCell hS c5k
                            have s2 := drCell hS c5d
                            have s3 := drCell hS c5x
                            go_simp
                          refine StepsG.cons rfl rfl (fun wq hS => ?_) ?_
                          · have s1 := drCell hS c5k
                            have s2 := drCell hS c5d
                            have s3 := drCell hS c5x
                            go_simp
                          refine StepsG.cons rfl rfl (fun wq hS => ?_) ?_
                          · have s1 := drCell hS c5k
                            have s2 := drCell hS c5d
                            have s3 := drCell hS c5x
                            go_simp
                          refine StepsG.cons rfl rfl (fun wq hS => ?_) ?_
                          · have s1 := drCell hS c5k
                            have s2 := drCell hS c5d
                            have s3 := drCell hS c5x
                            go_simp
                          refine StepsG.cons rfl rfl (fun wq hS => ?_) ?_
                          · have s1 := drCell hS c5k
                            have s2 := drCell hS c5d
                            have s3 := drCell hS c5x
                            go_simp
                          refine StepsG.cons rfl rfl (fun wq hS => ?_) ?_
                          · have s1 := drCell hS c5k
                            have s2 := drCell hS c5d
                            have s3 := drCell hS c5x
                            go_simp
                          refine StepsG.cons rfl rfl (fun wq hS => ?_) ?_
                          · have s1 := drCell hS c5k
                            have s2 := drCell hS c5d
                            have s3 := drCell hS c5x
                            go_simp
                          refine StepsG.cons rfl rfl (fun wq hS => ?_) ?_
                          · have s1 := drCell hS c5k
                            have s2 := drCell hS c5d
                            have s3 := drCell hS c5x
                            go_simp
                          refine StepsG.cons rfl rfl (fun wq hS => ?_) ?_
                          · have s1 := drCell hS c5k
                            have s2 := drCell hS c5d
                            have s3 := drCell hS c5x
                            go_simp
                          refine StepsG.cons rfl rfl (fun wq hS => ?_) ?_
                          · have s1 := drCell hS c5k
                            have s2 := drCell hS c5d
                            have s3 := drCell hS c5x
                            go_simp
                          refine StepsG.cons rfl rfl (fun wq hS => ?_) ?_
                          · have s1 := drCell hS c5k
                            have s2 := drCell hS c5d
                            have s3 := drCell hS c5x
                            go_simp
                          refine StepsG.cons rfl rfl (fun wq hS => ?_) ?_
                          · have s1 := drCell hS c5k
                            have s2 := drCell hS c5d
                            have s3 := drCell hS c5x
                            go_simp
                          refine StepsG.cons rfl rfl (fun wq hS => ?_) ?_
                          · have s1 := drCell hS c5k
                            have s2 := drCell hS c5d
                            have s3 := drCell hS c5x
                            go_simp
                          refine StepsG.cons rfl rfl (fun wq hS => ?_) ?_
                          · have s1 := drCell hS c5k
                            have s2 := drCell hS c5d
                            have s3 := drCell hS c5x
                            go_simp
                          refine StepsG.cons rfl rfl (fun wq hS => ?_) ?_
                          · have s1 := drCell hS c5k
                            have s2 := drCell hS c5d
                            have s3 := drCell hS c5x
                            go_simp
                          refine StepsG.cons rfl rfl (fun wq hS => ?_) ?_
                          · have s1 := drCell hS c5k
                            have s2 := drCell hS c5d
                            have s3 := drCell hS c5x
                            go_simp
                          refine StepsG.cons rfl rfl (fun wq hS => ?_) ?_
                          · have s1 := drCell hS c5k
                            have s2 := drCell hS c5d
                            have s3 := drCell hS c5x
                            go_simp
                          refine StepsG.cons rfl rfl (fun wq hS => ?_) ?_
                          · have s1 := drCell hS c5k
                            have s2 := drCell hS c5d
                            have s3 := drCell hS c5x
                            go_simp
                          refine StepsG.cons rfl rfl (fun wq hS => ?_) ?_
                          · have s1 := drCell hS c5k
                            have s2 := drCell hS c5d
                            have s3 := drCell hS c5x
                            go_simp
                          refine StepsG.cons rfl rfl (fun wq hS => ?_) ?_
                          · have s1 := drCell hS c5k
                            have s2 := drCell hS c5d
                            have s3 := drCell hS c5x
                            go_simp
                          refine StepsG.cons rfl rfl (fun wq hS => ?_) ?_
                          · have s1 := drCell hS c5k
                            have s2 := drCell hS c5d
                            have s3 := drCell hS c5x
                            go_simp
                          refine StepsG.cons rfl rfl (fun wq hS => ?_) ?_
                          · have s1 := drCell hS c5k
                            have s2 := drCell hS c5d
                            have s3 := drCell hS c5x
                            go_simp
                          refine StepsG.cons rfl rfl (fun wq hS => ?_) ?_
                          · have s1 := drCell hS c5k
                            have s2 := drCell hS c5d
                            have s3 := drCell hS c5x
                            go_simp
                          refine StepsG.cons rfl rfl (fun wq hS => ?_) ?_
                          · have s1 := drCell hS c5k
                            have s2 := drCell hS c5d
                            have s3 := drCell hS c5x
                            go_simp
                          refine StepsG.cons rfl rfl (fun wq hS => ?_) ?_
                          · have s1 := drCell hS c5k
                            have s2 := drCell hS c5d
                            have s3 := drCell hS c5x
                            go_simp
                          refine StepsG.cons rfl rfl (fun wq hS => ?_) ?_
                          · have s1 := drCell hS c5k
                            have s2 := drCell hS c5d
                            have s3 := drCell hS c5x
                            go_simp
                          refine StepsG.cons rfl rfl (fun wq hS => ?_) ?_
                          · have s1 := drCell hS c5k
                            have s2 := drCell hS c5d
                            have s3 := drCell hS c5x
                            go_simp
                          exact StepsG.nil
                        case rest =>
                          intro wq hS
                          simp only [putsOfG, Act.put, List.getElem?_toArray, List.getElem?_cons_succ, List.getElem?_cons_zero, Option.bind_some, Nat.reduceAdd, List.setIfInBounds_toArray, List.set_cons_zero, List.set_cons_succ]
                          obtain ⟨w6, hw6⟩ : ∃ w6, w6 = wq := ⟨_, rfl⟩
                          rw [← hw6]
                          have hb6 : Below wo.heap.size wo w6 := by rw [hw6]; exact hb5.trans (hS.below _)
                          have HRW := Lib.hid (show Own w6 wo.heap.size w6.heap.size 3 (.slice (some ⟨g3, 0, none⟩) QQ.length c3) (ints Q2) by rw [hw6]; exact (HO5.out.dr hS).more)
                          have HCV : Hid (covS L i = some Q2) := Lib.hid (by rw [HCC.out, if_pos ⟨h1, .inr H3.out⟩])
                          have hz6 := hb6.size
                          clear hw6 hS c5k c5d c5x
                          go_wp2_with (at_builtin; refine wpList_append_o _ rfl (.tmp 121) (.tmp 123) 23 rfl w.heap.size wo.heap.size 22 i1 (.slice none 0 0) 24 Try.underlying23 hj hy0 hy1 hy2 rfl _ us rfl ((HO.out.outer.below hb6).alloc _) (w6.heap.size + 1) (some ⟨w6.heap.size, 0, none⟩) 1 1 [.slice (some ⟨g3, 0, none⟩) QQ.length c3] rfl (Rd.one w6 _ _) rfl (by intro u hu; rw [List.mem_singleton.1 hu]; rfl) (by unfold maxLen; have := HUL.out; omega) (by have := HUL.out; omega) (by rw [World.size_alloc]; omega) ?_; intro v' w7 ho7 hg7 hat7)
                          go_roundw
                          case rel =>
                            refine ⟨i + 1, us ++ [.slice (some ⟨g3, 0, none⟩) QQ.length c3], by omega, by go_num, ((hbr.trans (hb6.mono hzo)).alloc (by omega) _).grown hg7 (by rw [World.size_alloc]; omega) (fun g e => HO.out.outer.base g e), ?_⟩
                            rw [covU_yes HCV.out]
                            exact ((HO.out.below hb6).below ((Below.refl _ _).alloc (by omega) _)).append (HRW.out.alloc _) (Nat.le_refl _) (by omega) ho7 hg7 hat7
                          case measure => simp [intOf]; omega
                      · have h3b : (t == z2) = false := by simp [h3]
                        have H3 := Lib.hid h3
                        clear h3
                        refine wp_region_vals [0, 1, 2, 3, 4, 5, 6, 7, 8, 9, 10, 11, 12, 13, 14, 15, 16, 17, 18, 19, 20, 21, 22, 23, 24, 25, 26, 27, 28] [.slice (some ⟨g3, 0, none⟩) QQ.length c3, .int .i64 (k : Int), .pointer (some ⟨g3, k, none⟩), .int .i64 zz, .slice (some ⟨g3, 0, none⟩) QQ.length c3, .int .i64 (k : Int), .int .i64 (d : Int), .pointer (some ⟨g3, d, none⟩), .int .i64 u, .bool true, .bool true, .int .i64 (k : Int), .int .i64 (i : Int), .int .i64 ((i : Int) + 1), .bool false, .bool false, .slice (some ⟨bp, op, none⟩) L.length c, .int .i64 (i : Int), .pointer (some ⟨bp, op + i, none⟩), .int .i64 x, .int .i64 t, .slice (some ⟨g3, 0, none⟩) QQ.length c3, .int .i64 (k : Int), .pointer (some ⟨g3, k, none⟩), .int .i64 zz, .int .i64 z2, .bool false, .bool false, .bool false] (fun w' => Dr w5 w') _ hmx (fun _ h => h) rfl rfl (by kernel_rfl) (by kernel_rfl) rfl ?steps ?rest
                        case steps =>
                          simp only [putsOfG, Act.put, List.getElem?_toArray, List.getElem?_cons_succ, List.getElem?_cons_zero, Option.bind_some, Nat.reduceAdd, List.setIfInBounds_toArray, List.set_cons_zero, List.set_cons_succ]
                          refine StepsG.cons rfl rfl (fun wq hS => ?_) ?_
                          · have s1 := drCell hS c5k
                            have s2 := drCell hS c5d
                            have s3 := drCell hS c5x
                            go_simp
                          refine StepsG.cons rfl rfl (fun wq hS => ?_) ?_
                          · have s1 := drCell hS c5k
                            have s2 := drCell hS c5d
                            have s3 := drCell hS c5x
                            go_simp
                          refine StepsG.cons rfl rfl (fun wq hS => ?_) ?_
                          · have s1 := drCell hS c5k
                            have s2 := drCell hS c5d
                            have s3 := drCell hS c5x
                            go_simp
                          refine StepsG.cons rfl rfl (fun wq hS => ?_) ?_
                          · have s1 := drCell hS c5k
                            have s2 := drCell hS c5d
                            have s3 := drCell hS c5x
                            go_simp
                          refine StepsG.cons rfl rfl (fun wq hS => ?_) ?_
                          · have s1 := drCell hS c5k
                            have s2 := drCell hS c5d
                            have s3 := drCell hS c5x
                            go_simp
                          refine StepsG.cons rfl rfl (fun wq hS => ?_) ?_
                          · have s1 := drCell hS c5k
                            have s2 := drCell hS c5d
                            have s3 := drCell hS c5x
                            go_simp
                          refine StepsG.cons rfl rfl (fun wq hS => ?_) ?_
                          · have s1 := drCell hS c5k
                            have s2 := drCell hS c5d
                            have s3 := drCell hS c5x
                            go_simp
                          refine StepsG.cons rfl rfl (fun wq hS => ?_) ?_
                          · have s1 := drCell hS c5k
                            have s2 := drCell hS c5d
                            have s3 := drCell hS c5x
                            go_simp
                          refine StepsG.cons rfl rfl (fun wq hS => ?_) ?_
                          · have s1 := drCell hS c5k
                            have s2 := drCell hS c5d
                            have s3 := drCell hS c5x
                            go_simp
                          refine StepsG.cons rfl rfl (fun wq hS => ?_) ?_
                          · have s1 := drCell hS c5k
                            have s2 := drCell hS c5d
                            have s3 := drCell hS c5x
                            go_simp
                          refine StepsG.cons rfl rfl (fun wq hS => ?_) ?_
                          · have s1 := drCell hS c5k
                            have s2 := drCell hS c5d
                            have s3 := drCell hS c5x
                            go_simp
                          refine StepsG.cons rfl rfl (fun wq hS => ?_) ?_
                          · have s1 := drCell hS c5k
                            have s2 := drCell hS c5d
                            have s3 := drCell hS c5x
                            go_simp
                          refine StepsG.cons rfl rfl (fun wq hS => ?_) ?_
                          · have s1 := drCell hS c5k
                            have s2 := drCell hS c5d
                            have s3 := drCell hS c5x
                            go_simp
                          refine StepsG.cons rfl rfl (fun wq hS => ?_) ?_
                          · have s1 := drCell hS c5k
                            have s2 := drCell hS c5d
                            have s3 := drCell hS c5x
                            go_simp
                          refine StepsG.cons rfl rfl (fun wq hS => ?_) ?_
                          · have s1 := drCell hS c5k
                            have s2 := drCell hS c5d
                            have s3 := drCell hS c5x
                            go_simp
                          refine StepsG.cons rfl rfl (fun wq hS => ?_) ?_
                          · have s1 := drCell hS c5k
                            have s2 := drCell hS c5d
                            have s3 := drCell hS c5x
                            go_simp
                          refine StepsG.cons rfl rfl (fun wq hS => ?_) ?_
                          · have s1 := drCell hS c5k
                            have s2 := drCell hS c5d
                            have s3 := drCell hS c5x
                            go_simp
                          refine StepsG.cons rfl rfl (fun wq hS => ?_) ?_
                          · have s1 := drCell hS c5k
                            have s2 := drCell hS c5d
                            have s3 := drCell hS c5x
                            go_simp
                          refine StepsG.cons rfl rfl (fun wq hS => ?_) ?_
                          · have s1 := drCell hS c5k
                            have s2 := drCell hS c5d
                            have s3 := drCell hS c5x
                            go_simp
                          refine StepsG.cons rfl rfl (fun wq hS => ?_) ?_
                          · have s1 := drCell hS c5k
                            have s2 := drCell hS c5d
                            have s3 := drCell hS c5x
                            go_simp
                          refine StepsG.cons rfl rfl (fun wq hS => ?_) ?_
                          · have s1 := drCell hS c5k
                            have s2 := drCell hS c5d
                            have s3 := drCell hS c5x
                            go_simp
                          refine StepsG.cons rfl rfl (fun wq hS => ?_) ?_
                          · have s1 := drCell hS c5k
                            have s2 := drCell hS c5d
                            have s3 := drCell hS c5x
                            go_simp
                          refine StepsG.cons rfl rfl (fun wq hS => ?_) ?_
                          · have s1 := drCell hS c5k
                            have s2 := drCell hS c5d
                            have s3 := drCell hS c5x
                            go_simp
                          refine StepsG.cons rfl rfl (fun wq hS => ?_) ?_
                          · have s1 := drCell hS c5k
                            have s2 := drCell hS c5d
                            have s3 := drCell hS c5x
                            go_simp
                          refine StepsG.cons rfl rfl (fun wq hS => ?_) ?_
                          · have s1 := drCell hS c5k
                            have s2 := drCell hS c5d
                            have s3 := drCell hS c5x
                            go_simp
                          refine StepsG.cons rfl rfl (fun wq hS => ?_) ?_
                          · have s1 := drCell hS c5k
                            have s2 := drCell hS c5d
                            have s3 := drCell hS c5x
                            go_simp
                          refine StepsG.cons rfl rfl (fun wq hS => ?_) ?_
                          · have s1 := drCell hS c5k
                            have s2 := drCell hS c5d
                            have s3 := drCell hS c5x
                            go_simp
                          refine StepsG.cons rfl rfl (fun wq hS => ?_) ?_
                          · have s1 := drCell hS c5k
                            have s2 := drCell hS c5d
                            have s3 := drCell hS c5x
                            go_simp
                          refine StepsG.cons rfl rfl (fun wq hS => ?_) ?_
                          · have s1 := drCell hS c5k
                            have s2 := drCell hS c5d
                            have s3 := drCell hS c5x
                            go_simp
                          exact StepsG.nil
                        case rest =>
                          intro wq hS
                          simp only [putsOfG, Act.put, List.getElem?_toArray, List.getElem?_cons_succ, List.getElem?_cons_zero, Option.bind_some, Nat.reduceAdd, List.setIfInBounds_toArray, List.set_cons_zero, List.set_cons_succ]
                          go_wp2_with fail
                          go_roundw
                          case rel => exact ⟨i + 1, us, by omega, by go_num, hbr.trans ((hb5.trans (hS.below _)).mono hzo), by rw [covU_no (by rw [HCC.out, if_neg (fun h => h.2.elim H2.out H3.out)])]; exact (HO.out.below (hb5.trans (hS.below _))).more⟩
                          case measure => simp [intOf]; omega
                  · have h1' : u < zz := by omega
                    go_quiet (fail)
                    go_wp2_with fail
                    go_roundw
                    case rel => exact ⟨i + 1, us, by omega, by go_num, hbr.trans ((hb5.trans ((Dr.n w5 _).below _)).mono hzo), by rw [covU_no (by rw [HCC.out, if_neg (fun h => h1 h.1)])]; exact (HO.out.below (hb5.trans ((Dr.n w5 _).below _))).more⟩
                    case measure => simp [intOf]; omega
            · have hi2' : (L.length : Int) ≤ (i : Int) + 1 := by omega
              have hi2d : decide ((i : Int) + 1 < (L.length : Int)) = false := decide_eq_false (by omega)
              have hi2n : decide (i + 1 < L.length) = false := decide_eq_false (by omega)
              by_cases hx2 : x < 2
              · go_quiet (fail)
                go_wp2_with fail
                go_roundw
                case rel => exact ⟨i + 1, us, by omega, by go_num, hbr.trans ((hbd.trans ((Dr.n wd _).below _)).mono hzo), by rw [covU_no (covS_no (.inr (by rw [HXG.out]; exact hx2)))]; exact (HO.out.below (hbd.trans ((Dr.n wd _).below _))).more⟩
                case measure => simp [intOf]; omega
              · have hx2' : 2 ≤ x := by omega
                go_quiet (fail)
                try clear hd1i hwd1
                obtain ⟨we, hwe⟩ : ∃ we, we = wd.drewN nq := ⟨_, rfl⟩
                rw [← hwe]
                have hbe : Below wo.heap.size wo we := by rw [hwe]; exact hbd.trans ((Dr.n wd nq).below _)
                have HOE := Lib.hid (show Own we wo.heap.size w2.heap.size 3 (.slice (some ⟨gq, 0, none⟩) L.length cq) (ints L) by rw [hwe]; exact (HO2.out.dr hdd).dr (Dr.n wd nq))
                have hzz2 : w2.heap.size ≤ we.heap.size := HOE.out.le
                have hze := hbe.size
                have HN : Hid (¬((i + 1 < L.length ∧ L.getD i 0 = L.getD (i + 1) 0) ∨ L.getD i 0 < 2)) := Lib.hid (by rintro (⟨h2, _⟩ | h2); exact hi2 h2; rw [HXG.out] at h2; omega)
                clear hwe
                go_wp2_with (at_builtin; refine wpList_append_o _ rfl (.tmp 73) (.tmp 74) 22 rfl wo.heap.size w2.heap.size 3 i0 (.int .i64 0) 8 Try.underlying22 hi hz0 hz1 hz2 rfl _ (ints L) rfl (HOE.out.alloc _) (we.heap.size + 1) (some ⟨we.heap.size, 0, none⟩) 1 1 [.int .i64 0] rfl (Rd.one we _ _) rfl (by simp; rfl) (by rw [HLI.out]; unfold maxLen; omega) (by rw [HLI.out]; omega) (by rw [World.size_alloc]; omega) ?_; intro v3 w3 ho3 hg3 hat3)
                have hb3 : Below wo.heap.size wo w3 := (hbe.alloc hze _).grown hg3 (by rw [World.size_alloc]; omega) (fun g e => HOE.out.base g e)
                have hvs : ints L ++ [Value.int .i64 0] = ints (L ++ [0]) := by simp [ints]
                rw [hvs] at ho3
                clear hvs
                obtain ⟨QQ, hQQ⟩ : ∃ QQ, QQ = L ++ [0] := ⟨_, rfl⟩
                rw [← hQQ] at ho3
                have HQQ : Hid (QQ = if k = L.length then L ++ [0] else L) := Lib.hid (by rw [if_pos (by omega), hQQ])
                have hkQ : k < QQ.length := by rw [hQQ, List.length_append]; simp; omega
                have HQB : Hid (∀ j (hj : j < QQ.length), 0 ≤ QQ[j] ∧ QQ[j] ≤ 16) := Lib.hid (by
                  intro j hj
                  subst hQQ
                  by_cases hjl : j < L.length
                  · rw [List.getElem_append_left hjl]; obtain ⟨y, hy, -, h1, h2⟩ := HXB.out j hjl; omega
                  · rw [List.getElem_append_right (by omega)]; simp)
                have hQx : QQ[i]'(by omega) = x := by
                  subst hQQ
                  rw [List.getElem_append_left hlt]
                  exact HX.out
                obtain ⟨g3, c3, rfl, hc3⟩ := ho3.formN (by simp; omega)
                have hl3 : (ints QQ).length = QQ.length := by simp
                rw [hl3] at ho3 hc3 ⊢
                have hq17 : QQ.length ≤ 17 := by rw [hQQ, List.length_append]; simp; omega
                have HO3 := Lib.hid ho3
                have HQL : Hid (QQ.length = QQ.length) := Lib.hid rfl
                clear ho3 hQQ hg3 hat3
                obtain ⟨z, hzk⟩ : ∃ z, QQ[k] = z := ⟨_, rfl⟩
                have hzb := HQB.out k hkQ
                rw [hzk] at hzb
                obtain ⟨x1, hx1⟩ : ∃ x1, x - 1 = x1 := ⟨_, rfl⟩
                obtain ⟨zz, hzz⟩ : ∃ zz, z + 1 = zz := ⟨_, rfl⟩
                have hikn : i ≠ k := by omega
                have own4 := HO3.out.set i (.int .i64 x1)
                have own5 := own4.set k (.int .i64 zz)
                obtain ⟨g', e1, c3i, f3i⟩ : ∃ g', g3 = g' ∧ w3.cell? ⟨g', i, none⟩ = some (.int .i64 x) ∧ w3.frozen? ⟨g', i, none⟩ = false := by
                  obtain ⟨g', _, e, _, _, h4, h5⟩ := HO3.out.at_ (k := i) (by simp; omega)
                  injection e with e _ _; injection e with e; injection e with e _ _; subst e
                  exact ⟨g3, rfl, by rw [h4]; simp [hQx], h5⟩
                subst e1
                obtain ⟨g', e1, c4k, f4k⟩ : ∃ g', g3 = g' ∧ (w3.setCell ⟨g', i, none⟩ (.int .i64 x1)).cell? ⟨g', k, none⟩ = some (.int .i64 z) ∧ (w3.setCell ⟨g', i, none⟩ (.int .i64 x1)).frozen? ⟨g', k, none⟩ = false := by
                  obtain ⟨g', _, e, _, _, h4, h5⟩ := own4.at_ (k := k) (by simp; omega)
                  injection e with e _ _; injection e with e; injection e with e _ _; subst e
                  exact ⟨g3, rfl, by rw [h4]; simp [List.getElem_set, hikn, hzk], h5⟩
                subst e1
                have hL5 : ((ints QQ).set i (.int .i64 x1)).set k (.int .i64 zz) = ints ((QQ.set i x1).set k zz) := by simp [ints, List.map_set]
                rw [hL5] at own5
                obtain ⟨Q2, hQ2⟩ : ∃ Q2, Q2 = (QQ.set i x1).set k zz := ⟨_, rfl⟩
                rw [← hQ2] at own5
                have hQ2l : Q2.length = QQ.length := by rw [hQ2]; simp
                obtain ⟨d, hqd⟩ : ∃ d : Nat, k - 1 = d := ⟨_, rfl⟩
                have hdi : (k : Int) - 1 = (d : Int) := by omega
                have hwd : IntKind.i64.wrap (d : Int) = (d : Int) := IntWalk.i64_in _ (by omega)
                have hdQ : d < Q2.length := by omega
                have hdQ' : d < QQ.length := by omega
                obtain ⟨u, hu⟩ : ∃ u, Q2[d] = u := ⟨_, rfl⟩
                obtain ⟨g', e1, c5k⟩ : ∃ g', g3 = g' ∧ ((w3.setCell ⟨g3, i, none⟩ (.int .i64 x1)).setCell ⟨g3, k, none⟩ (.int .i64 zz)).cell? ⟨g', k, none⟩ = some (.int .i64 zz) := by
                  obtain ⟨g', _, e, _, _, h4, h5⟩ := own5.at_ (k := k) (by simp; omega)
                  injection e with e _ _; injection e with e; injection e with e _ _; subst e
                  refine ⟨g3, rfl, ?_⟩
                  rw [h4]
                  subst hQ2
                  simp
                subst e1
                obtain ⟨g', e1, c5d⟩ : ∃ g', g3 = g' ∧ ((w3.setCell ⟨g3, i, none⟩ (.int .i64 x1)).setCell ⟨g3, k, none⟩ (.int .i64 zz)).cell? ⟨g', d, none⟩ = some (.int .i64 u) := by
                  obtain ⟨g', _, e, _, _, h4, h5⟩ := own5.at_ (k := d) (by simp; omega)
                  injection e with e _ _; injection e with e; injection e with e _ _; subst e
                  refine ⟨g3, rfl, ?_⟩
                  rw [h4]
                  simp [hu]
                subst e1
                have hgb : wo.heap.size ≤ g3 := HO3.out.base g3 rfl
                have hb5 : Below wo.heap.size wo ((w3.setCell ⟨g3, i, none⟩ (.int .i64 x1)).setCell ⟨g3, k, none⟩ (.int .i64 zz)) := (hb3.setCell (p := ⟨g3, i, none⟩) hgb _).setCell (p := ⟨g3, k, none⟩) hgb _
                have c5x : ((w3.setCell ⟨g3, i, none⟩ (.int .i64 x1)).setCell ⟨g3, k, none⟩ (.int .i64 zz)).cell? ⟨bp, op + i, none⟩ = some (.int .i64 x) := (hb5.cell (p := ⟨bp, op + i, none⟩) (World.block_lt_of_cell? _ _ hcpo)).trans hcpo
                obtain ⟨w5, hw5⟩ : ∃ w5, w5 = (w3.setCell ⟨g3, i, none⟩ (.int .i64 x1)).setCell ⟨g3, k, none⟩ (.int .i64 zz) := ⟨_, rfl⟩
                rw [← hw5] at own5 c5k c5d hb5 c5x
                have HW5 := Lib.hid hw5
                have HQD := Lib.hid hqd
                have HO5 := Lib.hid own5
                have HC : Hid (covS L i = if (zz ≤ u ∧ (k = i + 1 ∨ x - 2 = zz - 1)) then some Q2 else none) := Lib.hid (by
                  refine covS_eq (x := x) (z := z) HXG.out HN.out HK.out hkQ hikn HQQ.out (by rw [hzk]) (by rw [hQ2, hx1, hzz]) hdQ' ?_ hzz hqd
                  subst hQ2
                  exact hu)
                have c5kH := Lib.hid c5k
                have c5dH := Lib.hid c5d
                have c5xH := Lib.hid c5x
                have hkq : (k : Int) < (QQ.length : Int) := by omega
                have hiq : (i : Int) < (QQ.length : Int) := by omega
                have hdq : (d : Int) < (QQ.length : Int) := by have := HQL.out; omega
                clear own4 own5 hw5 hL5 hQ2 hqd hu c5k c5d c5x hQx hzk hwd hdi
                go_wp2_with fail
                rw [← HW5.out]
                have c5k := c5kH.out
                have c5d := c5dH.out
                have c5x := c5xH.out
                have hdi : (k : Int) - 1 = (d : Int) := by have := HQD.out; omega
                have hwd : IntKind.i64.wrap (d : Int) = (d : Int) := IntWalk.i64_in _ (by omega)
                obtain ⟨t, hx2⟩ : ∃ t, x - 2 = t := ⟨_, rfl⟩
                obtain ⟨z2, hz2'⟩ : ∃ z2, zz - 1 = z2 := ⟨_, rfl⟩
                have hzz' : zz = z + 1 := hzz.symm
                have hzzb : 1 ≤ zz ∧ zz ≤ 17 := by omega
                have htb : 0 ≤ t + 2 ∧ t ≤ 16 := by omega
                have hz2b : 0 ≤ z2 ∧ z2 ≤ 16 := by omega
                have hwt : IntKind.i64.wrap t = t := IntWalk.i64_in _ (by omega)
                have hwi1 : IntKind.i64.wrap ((i : Int) + 1) = (i : Int) + 1 := IntWalk.i64_in _ (by omega)
                have hwz2 : IntKind.i64.wrap z2 = z2 := IntWalk.i64_in _ (by omega)
                have HCC : Hid (covS L i = if (zz ≤ u ∧ (k = i + 1 ∨ t = z2)) then some Q2 else none) := Lib.hid (by rw [hx2, hz2'] at HC; exact HC.out)
                clear hzz hzz' hx1 f3i f4k c3i c4k
                by_cases h1 : zz ≤ u
                · by_cases h2 : k = i + 1
                  · have h2b : ((k : Int) == (i : Int) + 1) = true := by simp; omega
                    have H2 := Lib.hid h2
                    clear h2
                    refine wp_region_vals [0, 1, 2, 3, 4, 5, 6, 7, 8, 9, 10, 11, 12, 13, 14, 15, 16, 17, 18, 19, 20, 21, 22, 23, 24, 25, 26, 27, 28] [.slice (some ⟨g3, 0, none⟩) QQ.length c3, .int .i64 (k : Int), .pointer (some ⟨g3, k, none⟩), .int .i64 zz, .slice (some ⟨g3, 0, none⟩) QQ.length c3, .int .i64 (k : Int), .int .i64 (d : Int), .pointer (some ⟨g3, d, none⟩), .int .i64 u, .bool true, .bool true, .int .i64 (k : Int), .int .i64 (i : Int), .int .i64 ((i : Int) + 1), .bool true, .bool true, undef, undef, undef, undef, undef, undef, undef, undef, undef, undef, undef, .bool true, .bool true] (fun w' => Dr w5 w') _ hmx (fun _ h => h) rfl rfl (by kernel_rfl) (by kernel_rfl) rfl ?steps ?rest
                    case steps =>
                      simp only [putsOfG, Act.put, List.getElem?_toArray, List.getElem?_cons_succ, List.getElem?_cons_zero, Option.bind_some, Nat.reduceAdd, List.setIfInBounds_toArray, List.set_cons_zero, List.set_cons_succ]
                      refine StepsG.cons rfl rfl (fun wq hS => ?_) ?_
                      · have s1 := drCell hS c5k
                        have s2 := drCell hS c5d
                        have s3 := drCell hS c5x
                        go_simp
                      refine StepsG.cons rfl rfl (fun wq hS => ?_) ?_
                      · have s1 := drCell hS c5k
                        have s2 := drCell hS c5d
                        have s3 := drCell hS c5x
                        go_simp
                      refine StepsG.cons rfl rfl (fun wq hS => ?_) ?_
                      · have s1 := drCell hS c5k
                        have s2 := drCell hS c5d
                        have s3 := drCell hS c5x
                        go_simp
                      refine StepsG.cons rfl rfl (fun wq hS => ?_) ?_
                      · have s1 := drCell hS c5k
                        have s2 := drCell hS c5d
                        have s3 := drCell hS c5x
                        go_simp
                      refine StepsG.cons rfl rfl (fun wq hS => ?_) ?_
                      · have s1 := drCell hS c5k
                        have s2 := drCell hS c5d
                        have s3 := drCell hS c5x
                        go_simp
                      refine StepsG.cons rfl rfl (fun wq hS => ?_) ?_
                      · have s1 := drCell hS c5k
                        have s2 := drCell hS c5d
                        have s3 := drCell hS c5x
                        go_simp
                      refine StepsG.cons rfl rfl (fun wq hS => ?_) ?_
                      · have s1 := drCell hS c5k
                        have s2 := drCell hS c5d
                        have s3 := drCell hS c5x
                        go_simp
                      refine StepsG.cons rfl rfl (fun wq hS => ?_) ?_
                      · have s1 := drCell hS c5k
                        have s2 := drCell hS c5d
                        have s3 := drCell hS c5x
                        go_simp
                      refine StepsG.cons rfl rfl (fun wq hS => ?_) ?_
                      · have s1 := drCell hS c5k
                        have s2 := drCell hS c5d
                        have s3 := drCell hS c5x
                        go_simp
                      refine StepsG.cons rfl rfl (fun wq hS => ?_) ?_
                      · have s1 := drCell hS c5k
                        have s2 := drCell hS c5d
                        have s3 := drCell hS c5x
                        go_simp
                      refine StepsG.cons rfl rfl (fun wq hS => ?_) ?_
                      · have s1 := drCell hS c5k
                        have s2 := drCell hS c5d
                        have s3 := drCell hS c5x
                        go_simp
                      refine StepsG.cons rfl rfl (fun wq hS => ?_) ?_
                      · have s1 := drCell hS c5k
                        have s2 := drCell hS c5d
                        have s3 := drCell hS c5x
                        go_simp
                      refine StepsG.cons rfl rfl (fun wq hS => ?_) ?_
                      · have s1 := drCell hS c5k
                        have s2 := drCell hS c5d
                        have s3 := drCell hS c5x
                        go_simp
                      refine StepsG.cons rfl rfl (fun wq hS => ?_) ?_
                      · have s1 := drCell hS c5k
                        have s2 := drCell hS c5d
                        have s3 := drCell hS c5x
                        go_simp
                      refine StepsG.cons rfl rfl (fun wq hS => ?_) ?_
                      · have s1 := drCell hS c5k
                        have s2 := drCell hS c5d
                        have s3 := drCell hS c5x
                        go_simp
                      refine StepsG.cons rfl rfl (fun wq hS => ?_) ?_
                      · have s1 := drCell hS c5k
                        have s2 := drCell hS c5d
                        have s3 := drCell hS c5x
                        go_simp
                      refine StepsG.skip rfl rfl rfl ?_
                      refine StepsG.skip rfl rfl rfl ?_
                      refine StepsG.skip rfl rfl rfl ?_
                      refine StepsG.skip rfl rfl rfl ?_
                      refine StepsG.skip rfl rfl rfl ?_
                      refine StepsG.skip rfl rfl rfl ?_
                      refine StepsG.skip rfl rfl rfl ?_
                      refine StepsG.skip rfl rfl rfl ?_
                      refine StepsG.skip rfl rfl rfl ?_
                      refine StepsG.skip rfl rfl rfl ?_
                      refine StepsG.skip rfl rfl rfl ?_
                      refine StepsG.cons rfl rfl (fun wq hS => ?_) ?_
                      · have s1 := drCell hS c5k
                        have s2 := drCell hS c5d
                        have s3 := drCell hS c5x
                        go_simp
                      refine StepsG.cons rfl rfl (fun wq hS => ?_) ?_
                      · have s1 := drCell hS c5k
                        have s2 := drCell hS c5d
                        have s3 := drCell hS c5x
                        go_simp
                      exact StepsG.nil
                    case rest =>
                      intro wq hS
                      simp only [putsOfG, Act.put, List.getElem?_toArray, List.getElem?_cons_succ, List.getElem?_cons_zero, Option.bind_some, Nat.reduceAdd, List.setIfInBounds_toArray, List.set_cons_zero, List.set_cons_succ]
                      obtain ⟨w6, hw6⟩ : ∃ w6, w6 = wq := ⟨_, rfl⟩
                      rw [← hw6]
                      have hb6 : Below wo.heap.size wo w6 := by rw [hw6]; exact hb5.trans (hS.below _)
                      have HRW := Lib.hid (show Own w6 wo.heap.size w6.heap.size 3 (.slice (some ⟨g3, 0, none⟩) QQ.length c3) (ints Q2) by rw [hw6]; exact (HO5.out.dr hS).more)
                      have HCV : Hid (covS L i = some Q2) := Lib.hid (by rw [HCC.out, if_pos ⟨h1, .inl H2.out⟩])
                      have hz6 := hb6.size
                      clear hw6 hS c5k c5d c5x
                      go_wp2_with (at_builtin; refine wpList_append_o _ rfl (.tmp 121) (.tmp 123) 23 rfl w.heap.size wo.heap.size 22 i1 (.slice none 0 0) 24 Try.underlying23 hj hy0 hy1 hy2 rfl _ us rfl ((HO.out.outer.below hb6).alloc _) (w6.heap.size + 1) (some ⟨w6.heap.size, 0, none⟩) 1 1 [.slice (some ⟨g3, 0, none⟩) QQ.length c3] rfl (Rd.one w6 _ _) rfl (by intro u hu; rw [List.mem_singleton.1 hu]; rfl) (by unfold maxLen; have := HUL.out; omega) (by have := HUL.out; omega) (by rw [World.size_alloc]; omega) ?_; intro v' w7 ho7 hg7 hat7)
                      go_roundw
                      case rel =>
                        refine ⟨i + 1, us ++ [.slice (some ⟨g3, 0, none⟩) QQ.length c3], by omega, by go_num, ((hbr.trans (hb6.mono hzo)).alloc (by omega) _).grown hg7 (by rw [World.size_alloc]; omega) (fun g e => HO.out.outer.base g e), ?_⟩
                        rw [covU_yes HCV.out]
                        exact ((HO.out.below hb6).below ((Below.refl _ _).alloc (by omega) _)).append (HRW.out.alloc _) (Nat.le_refl _) (by omega) ho7 hg7 hat7
                      case measure => simp [intOf]; omega
                  · have h2b : ((k : Int) == (i : Int) + 1) = false := by simp; omega
                    have H2 := Lib.hid h2
                    clear h2
                    by_cases h3 : t = z2
                    · have h3b : (t == z2) = true := by simp [h3]
                      have H3 := Lib.hid h3
                      clear h3
                      refine wp_region_vals [0, 1, 2, 3, 4, 5, 6, 7, 8, 9, 10, 11, 12, 13, 14, 15, 16, 17, 18, 19, 20, 21, 22, 23, 24, 25, 26, 27, 28] [.slice (some ⟨g3, 0, none⟩) QQ.length c3, .int .i64 (k : Int), .pointer (some ⟨g3, k, none⟩), .int .i64 zz, .slice (some ⟨g3, 0, none⟩) QQ.length c3, .int .i64 (k : Int), .int .i64 (d : Int), .pointer (some ⟨g3, d, none⟩), .int .i64 u, .bool true, .bool true, .int .i64 (k : Int), .int .i64 (i : Int), .int .i64 ((i : Int) + 1), .bool false, .bool false, .slice (some ⟨bp, op, none⟩) L.length c, .int .i64 (i : Int), .pointer (some ⟨bp, op + i, none⟩), .int .i64 x, .int .i64 t, .slice (some ⟨g3, 0, none⟩) QQ.length c3, .int .i64 (k : Int), .pointer (some ⟨g3, k, none⟩), .int .i64 zz, .int .i64 z2, .bool true, .bool true, .bool true] (fun w' => Dr w5 w') _ hmx (fun _ h => h) rfl rfl (by kernel_rfl) (by kernel_rfl) rfl ?steps ?rest
                      case steps =>
                        simp only [putsOfG, Act.put, List.getElem?_toArray, List.getElem?_cons_succ, List.getElem?_cons_zero, Option.bind_some, Nat.reduceAdd, List.setIfInBounds_toArray, List.set_cons_zero, List.set_cons_succ]
                        refine StepsG.cons rfl rfl (fun wq hS => ?_) ?_
                        · have s1 := drCell hS c5k
                          have s2 := drCell hS c5d
                          have s3 := drCell hS c5x
                          go_simp
                        refine StepsG.cons rfl rfl (fun wq hS => ?_) ?_
                        · have s1 := drCell hS c5k
                          have s2 := drCell hS c5d
                          have s3 := drCell hS c5x
                          go_simp
                        refine StepsG.cons rfl rfl (fun wq hS => ?_) ?_
                        · have s1 := drCell hS c5k
                          have s2 := drCell hS c5d
                          have s3 := drCell hS c5x
                          go_simp
                        refine StepsG.cons rfl rfl (fun wq hS => ?_) ?_
                        · have s1 := drCell hS c5k
                          have s2 := drCell hS c5d
                          have s3 := drCell hS c5x
                          go_simp
                        refine StepsG.cons rfl rfl (fun wq hS => ?_) ?_
                        · have s1 := drCell hS c5k
                          have s2 := drCell hS c5d
                          have s3 := drCell hS c5x
                          go_simp
                        refine StepsG.cons rfl rfl (fun wq hS => ?_) ?_
                        · have s1 := drCell hS c5k
                          have s2 := drCell hS c5d
                          have s3 := drCell hS c5x
                          go_simp
                        refine StepsG.cons rfl rfl (fun wq hS => ?_) ?_
                        · have s1 := drCell hS c5k
                          have s2 := drCell hS c5d
                          have s3 := drCell hS c5x
                          go_simp
                        refine StepsG.cons rfl rfl (fun wq hS => ?_) ?_
                        · have s1 := drCell hS c5k
                          have s2 := drCell hS c5d
                          have s3 := drCell hS c5x
                          go_simp
                        refine StepsG.cons rfl rfl (fun wq hS => ?_) ?_
                        · have s1 := drCell hS c5k
                          have s2 := drCell hS c5d
                          have s3 := drCell hS c5x
                          go_simp
                        refine StepsG.cons rfl rfl (fun wq hS => ?_) ?_
                        · have s1 := drCell hS c5k
                          have s2 := drCell hS c5d
                          have s3 := drCell hS c5x
                          go_simp
                        refine StepsG.cons rfl rfl (fun wq hS => ?_) ?_
                        · have s1 := drCell hS c5k
                          have s2 := drCell hS c5d
                          have s3 := drCell hS c5x
                          go_simp
                        refine StepsG.cons rfl rfl (fun wq hS => ?_) ?_
                        · have s1 := drCell hS c5k
                          have s2 := drCell hS c5d
                          have s3 := drCell hS c5x
                          go_simp
                        refine StepsG.cons rfl rfl (fun wq hS => ?_) ?_
                        · have s1 := drCell hS c5k
                          have s2 := drCell hS c5d
                          have s3 := drCell hS c5x
                          go_simp
                        refine StepsG.cons rfl rfl (fun wq hS => ?_) ?_
                        · have s1 := drCell hS c5k
                          have s2 := drCell hS c5d
                          have s3 := drCell hS c5x
                          go_simp
                        refine StepsG.cons rfl rfl (fun wq hS => ?_) ?_
                        · have s1 := drCell hS c5k
                          have s2 := drCell hS c5d
                          have s3 := drCell hS c5x
                          go_simp
                        refine StepsG.cons rfl rfl (fun wq hS => ?_) ?_
                        · have s1 := drCell hS c5k
                          have s2 := drCell hS c5d
                          have s3 := drCell hS c5x
                          go_simp
                        refine StepsG.cons rfl rfl (fun wq hS => ?_) ?_
                        · have s1 := drCell hS c5k
                          have s2 := drCell hS c5d
                          have s3 := drCell hS c5x
                          go_simp
                        refine StepsG.cons rfl rfl (fun wq hS => ?_) ?_
                        · have s1 := drCell hS c5k
                          have s2 := drCell hS c5d
                          have s3 := drCell hS c5x
                          go_simp
                        refine StepsG.cons rfl rfl (fun wq hS => ?_) ?_
                        · have s1 := drCell hS c5k
                          have s2 := drCell hS c5d
                          have s3 := drCell hS c5x
                          go_simp
                        refine StepsG.cons rfl rfl (fun wq hS => ?_) ?_
                        · have s1 := drCell hS c5k
                          have s2 := drCell hS c5d
                          have s3 := drCell hS c5x
                          go_simp
                        refine StepsG.cons rfl rfl (fun wq hS => ?_) ?_
                        · have s1 := drCell hS c5k
                          have s2 := drCell hS c5d
                          have s3 := drCell hS c5x
                          go_simp
                        refine StepsG.cons rfl rfl (fun wq hS => ?_) ?_
                        · have s1 := drCell hS c5k
                          have s2 := drCell hS c5d
                          have s3 := drCell hS c5x
                          go_simp
                        refine StepsG.cons rfl rfl (fun wq hS => ?_) ?_
                        · have s1 := drCell hS c5k
                          have s2 := drCell hS c5d
                          have s3 := drCell hS c5x
                          go_simp
                        refine StepsG.cons rfl rfl (fun wq hS => ?_) ?_
                        · have s1 := drCell hS c5k
                          have s2 := drCell hS c5d
                          have s3 := drCell hS c5x
                          go_simp
                        refine StepsG.cons rfl rfl (fun wq hS => ?_) ?_
                        · have s1 := drCell hS c5k
                          have s2 := drCell hS c5d
                          have s3 := drCell hS c5x
                          go_simp
                        refine StepsG.cons rfl rfl (fun wq hS => ?_) ?_
                        · have s1 := drCell hS c5k
                          have s2 := drCell hS c5d
                          have s3 := drCell hS c5x
                          go_simp
                        refine StepsG.cons rfl rfl (fun wq hS => ?_) ?_
                        · have s1 := drCell hS c5k
                          have s2 := drCell hS c5d
                          have s3 := drCell hS c5x
                          go_simp
                        refine StepsG.cons rfl rfl (fun wq hS => ?_) ?_
                        · have s1 := drCell hS c5k
                          have s2 := drCell hS c5d
                          have s3 := drCell hS c5x
                          go_simp
                        refine StepsG.cons rfl rfl (fun wq hS => ?_) ?_
                        · have s1 := drCell hS c5k
                          have s2 := drCell hS c5d
                          have s3 := drCell hS c5x
                          go_simp
                        exact StepsG.nil
                      case rest =>
                        intro wq hS
                        simp only [putsOfG, Act.put, List.getElem?_toArray, List.getElem?_cons_succ, List.getElem?_cons_zero, Option.bind_some, Nat.reduceAdd, List.setIfInBounds_toArray, List.set_cons_zero, List.set_cons_succ]
                        obtain ⟨w6, hw6⟩ : ∃ w6, w6 = wq := ⟨_, rfl⟩
                        rw [← hw6]
                        have hb6 : Below wo.heap.size wo w6 := by rw [hw6]; exact hb5.trans (hS.below _)
                        have HRW := Lib.hid (show Own w6 wo.heap.size w6.heap.size 3 (.slice (some ⟨g3, 0, none⟩) QQ.length c3) (ints Q2) by rw [hw6]; exact (HO5.out.dr hS).more)
                        have HCV : Hid (covS L i = some Q2) := Lib.hid (by rw [HCC.out, if_pos ⟨h1, .inr H3.out⟩])
                        have hz6 := hb6.size
                        clear hw6 hS c5k c5d c5x
                        go_wp2_with (at_builtin; refine wpList_append_o _ rfl (.tmp 121) (.tmp 123) 23 rfl w.heap.size wo.heap.size 22 i1 (.slice none 0 0) 24 Try.underlying23 hj hy0 hy1 hy2 rfl _ us rfl ((HO.out.outer.below hb6).alloc _) (w6.heap.size + 1) (some ⟨w6.heap.size, 0, none⟩) 1 1 [.slice (some ⟨g3, 0, none⟩) QQ.length c3] rfl (Rd.one w6 _ _) rfl (by intro u hu; rw [List.mem_singleton.1 hu]; rfl) (by unfold maxLen; have := HUL.out; omega) (by have := HUL.out; omega) (by rw [World.size_alloc]; omega) ?_; intro v' w7 ho7 hg7 hat7)
                        go_roundw
                        case rel =>
                          refine ⟨i + 1, us ++ [.slice (some ⟨g3, 0, none⟩) QQ.length c3], by omega, by go_num, ((hbr.trans (hb6.mono hzo)).alloc (by omega) _).grown hg7 (by rw [World.size_alloc]; omega) (fun g e => HO.out.outer.base g e), ?_⟩
                          rw [covU_yes HCV.out]
                          exact ((HO.out.below hb6).below ((Below.refl _ _).alloc (by omega) _)).append (HRW.out.alloc _) (Nat.le_refl _) (by omega) ho7 hg7 hat7
                        case measure => simp [intOf]; omega
                    · have h3b : (t == z2) = false := by simp [h3]
                      have H3 := Lib.hid h3
                      clear h3
                      refine wp_region_vals [0, 1, 2, 3, 4, 5, 6, 7, 8, 9, 10, 11, 12, 13, 14, 15, 16, 17, 18, 19, 20, 21, 22, 23, 24, 25, 26, 27, 28] [.slice (some ⟨g3, 0, none⟩) QQ.length c3, .int .i64 (k : Int), .pointer (some ⟨g3, k, none⟩), .int .i64 zz, .slice (some ⟨g3, 0, none⟩) QQ.length c3, .int .i64 (k : Int), .int .i64 (d : Int), .pointer (some ⟨g3, d, none⟩), .int .i64 u, .bool true, .bool true, .int .i64 (k : Int), .int .i64 (i : Int), .int .i64 ((i : Int) + 1), .bool false, .bool false, .slice (some ⟨bp, op, none⟩) L.length c, .int .i64 (i : Int), .pointer (some ⟨bp, op + i, none⟩), .int .i64 x, .int .i64 t, .slice (some ⟨g3, 0, none⟩) QQ.length c3, .int .i64 (k : Int), .pointer (some ⟨g3, k, none⟩), .int .i64 zz, .int .i64 z2, .bool false, .bool false, .bool false] (fun w' => Dr w5 w') _ hmx (fun _ h => h) rfl rfl (by kernel_rfl) (by kernel_rfl) rfl ?steps ?rest
                      case steps =>
                        simp only [putsOfG, Act.put, List.getElem?_toArray, List.getElem?_cons_succ, List.getElem?_cons_zero, Option.bind_some, Nat.reduceAdd, List.setIfInBounds_toArray, List.set_cons_zero, List.set_cons_succ]
                        refine StepsG.cons rfl rfl (fun wq hS => ?_) ?_
                        · have s1 := drCell hS c5k
                          have s2 := drCell hS c5d
                          have s3 := drCell hS c5x
                          go_simp
                        refine StepsG.cons rfl rfl (fun wq hS => ?_) ?_
                        · have s1 := drCell hS c5k
                          have s2 := drCell hS c5d
                          have s3 := drCell hS c5x
                          go_simp
                        refine StepsG.cons rfl rfl (fun wq hS => ?_) ?_
                        · have s1 := drCell hS c5k
                          have s2 := drCell hS c5d
                          have s3 := drCell hS c5x
                          go_simp
                        refine StepsG.cons rfl rfl (fun wq hS => ?_) ?_
                        · have s1 := drCell hS c5k
                          have s2 := drCell hS c5d
                          have s3 := drCell hS c5x
                          go_simp
                        refine StepsG.cons rfl rfl (fun wq hS => ?_) ?_
                        · have s1 := drCell hS c5k
                          have s2 := drCell hS c5d
                          have s3 := drCell hS c5x
                          go_simp
                        refine StepsG.cons rfl rfl (fun wq hS => ?_) ?_
                        · have s1 := drCell hS c5k
                          have s2 := drCell hS c5d
                          have s3 := drCell hS c5x
                          go_simp
                        refine StepsG.cons rfl rfl (fun wq hS => ?_) ?_
                        · have s1 := drCell hS c5k
                          have s2 := drCell hS c5d
                          have s3 := drCell hS c5x
                          go_simp
                        refine StepsG.cons rfl rfl (fun wq hS => ?_) ?_
                        · have s1 := drCell hS c5k
                          have s2 := drCell hS c5d
                          have s3 := drCell hS c5x
                          go_simp
                        refine StepsG.cons rfl rfl (fun wq hS => ?_) ?_
                        · have s1 := drCell hS c5k
                          have s2 := drCell hS c5d
                          have s3 := drCell hS c5x
                          go_simp
                        refine StepsG.cons rfl rfl (fun wq hS => ?_) ?_
                        · have s1 := drCell hS c5k
                          have s2 := drCell hS c5d
                          have s3 := drCell hS c5x
                          go_simp
                        refine StepsG.cons rfl rfl (fun wq hS => ?_) ?_
                        · have s1 := drCell hS c5k
                          have s2 := drCell hS c5d
                          have s3 := drCell hS c5x
                          go_simp
                        refine StepsG.cons rfl rfl (fun wq hS => ?_) ?_
                        · have s1 := drCell hS c5k
                          have s2 := drCell hS c5d
                          have s3 := drCell hS c5x
                          go_simp
                        refine StepsG.cons rfl rfl (fun wq hS => ?_) ?_
                        · have s1 := drCell hS c5k
                          have s2 := drCell hS c5d
                          have s3 := drCell hS c5x
                          go_simp
                        refine StepsG.cons rfl rfl (fun wq hS => ?_) ?_
                        · have s1 := drCell hS c5k
                          have s2 := drCell hS c5d
                          have s3 := drCell hS c5x
                          go_simp
                        refine StepsG.cons rfl rfl (fun wq hS => ?_) ?_
                        · have s1 := drCell hS c5k
                          have s2 := drCell hS c5d
                          have s3 := drCell hS c5x
                          go_simp
                        refine StepsG.cons rfl rfl (fun wq hS => ?_) ?_
                        · have s1 := drCell hS c5k
                          have s2 := drCell hS c5d
                          have s3 := drCell hS c5x
                          go_simp
                        refine StepsG.cons rfl rfl (fun wq hS => ?_) ?_
                        · have s1 := drCell hS c5k
                          have s2 := drCell hS c5d
                          have s3 := drCell hS c5x
                          go_simp
                        refine StepsG.cons rfl rfl (fun wq hS => ?_) ?_
                        · have s1 := drCell hS c5k
                          have s2 := drCell hS c5d
                          have s3 := drCell hS c5x
                          go_simp
                        refine StepsG.cons rfl rfl (fun wq hS => ?_) ?_
                        · have s1 := drCell hS c5k
                          have s2 := drCell hS c5d
                          have s3 := drCell hS c5x
                          go_simp
                        refine StepsG.cons rfl rfl (fun wq hS => ?_) ?_
                        · have s1 := drCell hS c5k
                          have s2 := drCell hS c5d
                          have s3 := drCell hS c5x
                          go_simp
                        refine StepsG.cons rfl rfl (fun wq hS => ?_) ?_
                        · have s1 := drCell hS c5k
                          have s2 := drCell hS c5d
                          have s3 := drCell hS c5x
                          go_simp
                        refine StepsG.cons rfl rfl (fun wq hS => ?_) ?_
                        · have s1 := drCell hS c5k
                          have s2 := drCell hS c5d
                          have s3 := drCell hS c5x
                          go_simp
                        refine StepsG.cons rfl rfl (fun wq hS => ?_) ?_
                        · have s1 := drCell hS c5k
                          have s2 := drCell hS c5d
                          have s3 := drCell hS c5x
                          go_simp
                        refine StepsG.cons rfl rfl (fun wq hS => ?_) ?_
                        · have s1 := drCell hS c5k
                          have s2 := drCell hS c5d
                          have s3 := drCell hS c5x
                          go_simp
                        refine StepsG.cons rfl rfl (fun wq hS => ?_) ?_
                        · have s1 := drCell hS c5k
                          have s2 := drCell hS c5d
                          have s3 := drCell hS c5x
                          go_simp
                        refine StepsG.cons rfl rfl (fun wq hS => ?_) ?_
                        · have s1 := drCell hS c5k
                          have s2 := drCell hS c5d
                          have s3 := drCell hS c5x
                          go_simp
                        refine StepsG.cons rfl rfl (fun wq hS => ?_) ?_
                        · have s1 := drCell hS c5k
                          have s2 := drCell hS c5d
                          have s3 := drCell hS c5x
                          go_simp
                        refine StepsG.cons rfl rfl (fun wq hS => ?_) ?_
                        · have s1 := drCell hS c5k
                          have s2 := drCell hS c5d
                          have s3 := drCell hS c5x
                          go_simp
                        refine StepsG.cons rfl rfl (fun wq hS => ?_) ?_
                        · have s1 := drCell hS c5k
                          have s2 := drCell hS c5d
                          have s3 := drCell hS c5x
                          go_simp
                        exact StepsG.nil
                      case rest =>
                        intro wq hS
                        simp only [putsOfG, Act.put, List.getElem?_toArray, List.getElem?_cons_succ, List.getElem?_cons_zero, Option.bind_some, Nat.reduceAdd, List.setIfInBounds_toArray, List.set_cons_zero, List.set_cons_succ]
                        go_wp2_with fail
                        go_roundw
                        case rel => exact ⟨i + 1, us, by omega, by go_num, hbr.trans ((hb5.trans (hS.below _)).mono hzo), by rw [covU_no (by rw [HCC.out, if_neg (fun h => h.2.elim H2.out H3.out)])]; exact (HO.out.below (hb5.trans (hS.below _))).more⟩
                        case measure => simp [intOf]; omega
                · have h1' : u < zz := by omega
                  go_quiet (fail)
                  go_wp2_with fail
                  go_roundw
                  case rel => exact ⟨i + 1, us, by omega, by go_num, hbr.trans ((hb5.trans ((Dr.n w5 _).below _)).mono hzo), by rw [covU_no (by rw [HCC.out, if_neg (fun h => h1 h.1)])]; exact (HO.out.below (hb5.trans ((Dr.n w5 _).below _))).more⟩
                  case measure => simp [intOf]; omega
      · obtain rfl : i = L.length := by omega
        have HO := Lib.hid ho
        have hcl := covU_len L L.length
        clear ho
        go_wp2_with (go_at_call 66; refine (sorted_any _ _ w.heap.size wo.heap.size (sumL L) (covU L L.length) wo HO.out.rdF hbr.size (Nat.le_refl _) (by omega) HCO.out).mono ?_; rintro e w5 ⟨a5, c5, rfl, hr5, hb5⟩)
        go_ret
        exact ⟨a5, c5, rfl, hr5, hbr.trans (hb5.mono hbr.size)⟩
  · have hc : cvF L = [] := by
      unfold cvF
      rw [if_neg]
      simp only [Bool.and_eq_true, decide_eq_true_eq]
      exact hok
    rw [hc]
    by_cases hv : valid L = true
    · have h12 : 12 < sumL L := by
        rcases Int.lt_or_le 12 (sumL L) with h1 | h1
        · exact h1
        · exact absurd ⟨hv, h1⟩ hok
      have HV := Lib.hid hv
      have HF := Lib.hid (valid_fits hv)
      clear hv hok
      go_enter Try.func36, Try.ntmps36
      go_wp2_with (first | (go_at_call 32; refine (validParts_any _ _ _ L _ h (by omega)).mono ?_; rintro e w1 ⟨rfl, hd1⟩; rw [HV.out]; obtain ⟨nn, rfl⟩ := hd1) | (go_at_call 33; refine (sum_any _ _ _ L _ (h.dr (Dr.n w nn)) HF.out (by omega)).mono ?_; rintro e w1 ⟨rfl, rfl⟩))
      go_ret
      exact ⟨none, 0, rfl, RdLF.nil _ _ _, (Dr.n w nn).below _⟩
    · have HV : Hid (valid L = false) := Lib.hid (by simpa using hv)
      clear hv hok
      go_enter Try.func36, Try.ntmps36
      go_wp2_with (go_at_call 32; refine (validParts_any _ _ _ L _ h (by omega)).mono ?_; rintro e w1 ⟨rfl, hd1⟩; rw [HV.out]; obtain ⟨nn, rfl⟩ := hd1)
      go_ret
      exact ⟨none, 0, rfl, RdLF.nil _ _ _, (Dr.n w nn).below _⟩
end Go.Proofs.Ytmojonpjgaidgaa
