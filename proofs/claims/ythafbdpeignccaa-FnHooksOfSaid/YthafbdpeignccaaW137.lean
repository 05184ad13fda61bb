/-
  Walks of the program: one growth more among those of a level.
-/
import Derived.Test.YthafbdpeignccaaGw
import Derived.Test.YthafbdpeignccaaM78
import Derived.Test.YthafbdpeignccaaW118
import Derived.Test.YthafbdpeignccaaW119
import Derived.Test.YthafbdpeignccaaW109
import Derived.Test.YthafbdpeignccaaArr5
namespace Go.Proofs.Ythafbdpeignccaa
open Go.RowKit NP
set_option maxRecDepth 8000
set_option linter.unusedVariables false
set_option linter.unusedSimpArgs false
def gRow (g : List Int × Int) : List Int := pad g.1 ++ [g.2]
def gRows (G : List (List Int × Int)) : List (List Int) := G.map gRow
theorem gRow_len {g : List Int × Int} (h : valid g.1 = true) : (gRow g).length = 17 := by unfold gRow; rw [List.length_append, pad_len (valid_bd h).2.2.2]; rfl
theorem gRow_last {g : List Int × Int} (h : valid g.1 = true) : (gRow g)[16]? = some g.2 := by
  unfold gRow
  rw [List.getElem?_append_right (by rw [pad_len (valid_bd h).2.2.2]; omega), pad_len (valid_bd h).2.2.2]; rfl
theorem gRow_first {g : List Int × Int} (h : valid g.1 = true) {j : Nat} (hj : j < (pad g.1).length) : (pad g.1)[j]? = (gRow g)[0 + j]? := by
  unfold gRow
  rw [Nat.zero_add, List.getElem?_append_left hj]
theorem gRow_set {g : List Int × Int} (h : valid g.1 = true) (x : Int) : (gRow g).set 16 x = gRow (g.1, x) := by
  unfold gRow
  rw [List.set_append_right _ _ (by rw [pad_len (valid_bd h).2.2.2]; omega), pad_len (valid_bd h).2.2.2]; rfl
theorem gRows_set {G : List (List Int × Int)} {k : Nat} (g : List Int × Int) : (gRows G).set k (gRow g) = gRows (G.set k g) := by unfold gRows; rw [List.map_set]
theorem gRows_len (G : List (List Int × Int)) : (gRows G).length = G.length := by simp [gRows]
theorem gRows_at {G : List (List Int × Int)} {k : Nat} (hk : k < G.length) : (gRows G)[k]'(by rw [gRows_len]; exact hk) = gRow G[k] := by simp [gRows]
theorem T_gr : (Try.prog.info? 92).map (·.size) = some 17 := by kernel_rfl
theorem T_grinfo : ∃ i : TypeInfo, Try.prog.info? 92 = some i ∧ i.zero = some (.agg (arr (List.replicate 17 0))) ∧ i.size = 17 ∧ i.bytes = 136 := by
  refine ⟨_, rfl, ?_, ?_, ?_⟩ <;> kernel_rfl
theorem rangeAt_dr {w w' : World} (h : Dr w w') {b o : Nat} {cs : List Value} (hr : w.rangeAt b o cs) : w'.rangeAt b o cs := by obtain ⟨n, rfl⟩ := h; exact hr
theorem rangeAt_blk {w : World} {g : Nat} {t : TypeId} {L M : List Int} (h : Blk w g t (arr L)) (o : Nat) (hm : ∀ j, j < M.length → M[j]? = L[o + j]?) : w.rangeAt g o (ints M) := fun i v hv => by
  have hi' : i < M.length := by have := (List.getElem?_eq_some_iff.1 hv).1; simpa using this
  rw [h.cell (o + i)]
  have e := hm i hi'
  unfold arr ints
  unfold ints at hv
  rw [List.getElem?_map] at hv
  rw [List.getElem?_toArray, List.getElem?_map, ← e]; exact hv
theorem cell_dr {w w' : World} (h : Dr w w') {p : Addr} {v : Value} (hc : w.cell? p = some v) : w'.cell? p = some v := by obtain ⟨n, rfl⟩ := h; exact hc
theorem froz_dr {w w' : World} (h : Dr w w') {p : Addr} {b : Bool} (hc : w.frozen? p = b) : w'.frozen? p = b := by obtain ⟨n, rfl⟩ := h; exact hc
theorem gb_dr {w a b : World} {row : Option Nat} (h : w.grownBy a row) (hd : Dr a b) : w.grownBy b row := by obtain ⟨n, rfl⟩ := hd; exact ⟨h.1, h.2, h.3, h.4, h.5⟩
theorem gb_set {w a : World} {row : Option Nat} (h : w.grownBy a row) {p : Addr} (hp : row = some p.block) (u : Value) : w.grownBy (a.setCell p u) row :=
  ⟨h.1, h.2, h.3, by simpa [World.setCell] using h.4, fun k hk hne => (Below.heap_setCell a p u k (fun e => hne (by rw [hp, e]))).trans (h.5 k hk hne)⟩
theorem gb_trans {a b c : World} {row : Option Nat} (h : a.grownBy b row) (k : b.grownBy c row) : a.grownBy c row :=
  ⟨k.1.trans h.1, k.2.trans h.2, k.3.trans h.3, Nat.le_trans h.4 k.4, fun i hi hne => (k.5 i (Nat.lt_of_lt_of_le hi h.4) hne).trans (h.5 i hi hne)⟩
theorem fold17a (x0 x1 x2 x3 x4 x5 x6 x7 x8 x9 x10 x11 x12 x13 x14 x15 x16 : Int) : Array.foldl (fun (cs : Array Value) (x : Value × Nat) => cs.setIfInBounds x.snd x.fst) #[.int .i64 0, .int .i64 0, .int .i64 0, .int .i64 0, .int .i64 0, .int .i64 0, .int .i64 0, .int .i64 0, .int .i64 0, .int .i64 0, .int .i64 0, .int .i64 0, .int .i64 0, .int .i64 0, .int .i64 0, .int .i64 0, .int .i64 0] (arr [x0, x1, x2, x3, x4, x5, x6, x7, x8, x9, x10, x11, x12, x13, x14, x15, x16]).zipIdx 0 17 = arr [x0, x1, x2, x3, x4, x5, x6, x7, x8, x9, x10, x11, x12, x13, x14, x15, x16] := by kernel_rfl
theorem fold17 (L : List Int) (h : L.length = 17) : Array.foldl (fun (cs : Array Value) (x : Value × Nat) => cs.setIfInBounds x.snd x.fst) #[.int .i64 0, .int .i64 0, .int .i64 0, .int .i64 0, .int .i64 0, .int .i64 0, .int .i64 0, .int .i64 0, .int .i64 0, .int .i64 0, .int .i64 0, .int .i64 0, .int .i64 0, .int .i64 0, .int .i64 0, .int .i64 0, .int .i64 0] (arr L).zipIdx 0 17 = arr L := by
  match L, h with
  | [x0, x1, x2, x3, x4, x5, x6, x7, x8, x9, x10, x11, x12, x13, x14, x15, x16], _ => exact fold17a x0 x1 x2 x3 x4 x5 x6 x7 x8 x9 x10 x11 x12 x13 x14 x15 x16
theorem exec_loadR {P : Program} {ev : Operand → Value} {o : Oper} {w : World} {v : Value} (ty : TypeId) (x : Operand) (ho : o.op = .load ty x) (p : Addr) (hx : ev x = .pointer (some p)) (hrun : (loadVar ty p).run P w = .ok v w) :
    (execOp ev o).run P w = .ok (.value v) w := by
  simp only [execOp, ho, Instr.loadAt, hx, Instr.sureAddr, Sem.run_bind, Sem.run_pure, Result.andThen_ok, hrun]
theorem run_load_part {P : Program} (w : World) (b o : Nat) (ty : TypeId) (M : List Int) (d : TypeDesc) (hc : w.rangeAt b o (ints M)) (hu : P.underlying ty = some d) (hd : d.isRow = true) (hi : (P.info? ty).map (·.size) = some M.length) : (loadVar ty ⟨b, o, none⟩).run P w = .ok (.agg (arr M)) w := by
  have := run_loadVar_mid (P := P) w b o ty (ints M) d hc hu hd (by simpa [ints] using hi)
  exact this
set_option maxRecDepth 100000 in
set_option maxHeartbeats 4000000 in
theorem addGrowth_any (lo hi : Nat) (v : Value) (G : List (List Int × Int)) (S : List Int) (x : Int) (hG : ∀ g ∈ G, valid g.1 = true ∧ 0 ≤ g.2 ∧ g.2 ≤ 100000) (hS : valid S = true) (hx : 0 ≤ x ∧ x ≤ 100000) (hl : G.length ≤ 100000) (w : World) (h : OwnW w lo hi 92 17 v (gRows G)) (hlo : lo ≤ w.heap.size) :
    Calls Try.prog 121 #[v, .agg (arr (gRow (S, x)))] w fun e w' => ∃ v', e = .returned v' ∧ OwnW w' lo w'.heap.size 92 17 v' (gRows (addG G S x)) ∧ w.grownBy w' v.ownBlock ∧ (∀ g, v'.ownBlock = some g → v.ownBlock = some g ∨ w.heap.size ≤ g) := by
  obtain ⟨i0, hi0, hz0, hz1, hz2⟩ := T_grinfo
  have hmx : Try.prog.follows .mixedOrders = true := by kernel_rfl
  have hiG : (Try.prog.info? 92).map (·.size) = some (arr (gRow (S, x))).size := by rw [arr_size, gRow_len hS]; exact T_gr
  have hi16 : (Try.prog.info? 59).map (·.size) = some (pad S).length := by rw [pad_len (valid_bd hS).2.2.2]; exact T_info35
  have hl16 := pad_len (valid_bd hS).2.2.2
  have hb1 := Blk.new w 92 (arr (gRow (S, x)))
  obtain ⟨w1, hw1⟩ : ∃ w1, w.alloc (.cells (arr (gRow (S, x))) 92) = w1 := ⟨_, rfl⟩
  rw [hw1] at hb1
  have h1 : OwnW w1 lo hi 92 17 v (gRows G) := by rw [← hw1]; exact h.alloc _
  have hg1 : w.grownBy w1 v.ownBlock := by rw [← hw1]; exact World.grownBy_alloc w _ _
  have hz1' := hb1.lt
  have hfn : ∀ g, v.ownBlock = some g → g < w.heap.size := fun g hg => Nat.lt_of_lt_of_le (h.lt g hg) h.le
  have HFN := Lib.hid hfn
  have hlen := gRows_len G
  have HLEN := Lib.hid hlen
  obtain ⟨aV, cV, rfl⟩ := h.form
  rw [hlen] at h1 h hg1 HFN ⊢
  have HS := Lib.hid hS
  have HG := Lib.hid hG
  have H1 := Lib.hid h1
  clear hfn h h1 hG hlen hS
  go_enter Try.func121, Try.ntmps121
  go_wp2_with fail
  try rw [hw1]
  go_loopw [8] (fun ii wr => ∃ k : Nat, ii = .int .i64 (k : Int) ∧ k ≤ G.length ∧ Dr w1 wr ∧ Hid (∀ j (h : j < G.length), j < k → G[j].1 ≠ S)) (fun ii _ => G.length - (intOf ii).toNat)
  case atStart => exact ⟨0, rfl, Nat.zero_le _, Dr.refl _, Lib.hid (fun j _ hj => by omega)⟩
  case round =>
    obtain ⟨k, rfl, hk, hdr, HN⟩ := hrel
    by_cases hlt : k < G.length
    · have hlt' : (k : Int) < (G.length : Int) := by omega
      have hge := HG.out G[k] (List.getElem_mem hlt)
      have hkR : k < (gRows G).length := by rw [HLEN.out]; exact hlt
      obtain ⟨gV, c', hvv, hlo2, hhi2, hrange, hfz⟩ := H1.out.range hkR
      obtain ⟨_, _, hvv2, _, _, hcells, _⟩ := H1.out.at_ hkR
      injection hvv with hvv hvn hvc
      subst hvv
      injection hvv2 with hvv2 hvn2 hvc2
      injection hvv2 with hvv2
      injection hvv2 with hvv2
      subst hvv2
      clear hvn hvc hvn2 hvc2
      have hrow := gRows_at hlt
      rw [hrow] at hrange hcells
      have hT16 := pad_len (valid_bd hge.1).2.2.2
      have hR0 := hrange 0 (pad G[k].1) (by omega) (fun j hj => gRow_first hge.1 hj)
      have hC16 := hcells 16 G[k].2 (by omega) (gRow_last hge.1)
      have hBR : w1.rangeAt w.heap.size 0 (ints (pad S)) := rangeAt_blk hb1 0 (fun j hj => gRow_first (g := (S, x)) HS.out hj)
      have hBC : w1.cell? ⟨w.heap.size, 16, none⟩ = some (.int .i64 x) := by
        rw [hb1.cell 16]
        unfold arr ints
        rw [List.getElem?_toArray, List.getElem?_map, gRow_last (g := (S, x)) HS.out]; rfl
      have hfz16 := hfz (k * 17 + 16)
      have hi16' : (Try.prog.info? 59).map (·.size) = some (pad G[k].1).length := by rw [hT16]; exact T_info35
      have HEQ : Hid ((pad G[k].1 = pad S) ↔ G[k].1 = S) := Lib.hid (pad_inj hge.1 HS.out)
      have HGE := Lib.hid hge
      have HROW := Lib.hid hrow
      obtain ⟨T, hT⟩ : ∃ T, G[k].1 = T := ⟨_, rfl⟩
      obtain ⟨y, hy⟩ : ∃ y, G[k].2 = y := ⟨_, rfl⟩
      have hyb := hge.2
      rw [hT] at hR0 hi16' HEQ hT16
      rw [hy] at hC16 hyb
      have HT := Lib.hid hT
      have HY := Lib.hid hy
      clear hrange hcells hge hrow hT hy hfz
      rw [Nat.add_zero] at hR0
      go_wp2_with fail
      refine wp_region_vals [0, 1, 2, 3, 4, 5, 6, 7] [.slice (some ⟨gV, 0, none⟩) G.length cV, .int .i64 k, .pointer (some ⟨gV, k * 17, none⟩), .pointer (some ⟨gV, k * 17, none⟩), .agg (arr (pad T)), .pointer (some ⟨w.heap.size, 0, none⟩), .agg (arr (pad S)), .bool (decide (pad T = pad S))] (fun w' => Dr wr w') _ hmx (fun _ h => h) rfl rfl (by kernel_rfl) (by kernel_rfl) rfl ?steps ?rest
      case steps =>
        simp only [putsOfG, Act.put, List.getElem?_toArray, List.getElem?_cons_succ, List.getElem?_cons_zero, Option.bind_some, Nat.reduceAdd, List.setIfInBounds_toArray, List.set_cons_zero, List.set_cons_succ]
        refine StepsG.cons rfl rfl (fun wq hS => ?_) ?_
        · go_simp
        refine StepsG.cons rfl rfl (fun wq hS => ?_) ?_
        · go_simp
        refine StepsG.cons rfl rfl (fun wq hS => ?_) ?_
        · go_simp
        refine StepsG.cons rfl rfl (fun wq hS => ?_) ?_
        · go_simp
        refine StepsG.cons rfl rfl (fun wq hS => ?_) ?_
        · have s1 := rangeAt_dr (hdr.trans hS) hR0
          show Oper.wp _ _ _ _ _ _
          unfold Oper.wp
          rw [exec_loadR 59 (.tmp 14) rfl ⟨gV, k * 17, none⟩ rfl (run_load_part wq gV (k * 17) 59 (pad T) _ s1 Try.underlying59 rfl hi16')]
          exact ⟨rfl, hS⟩
        refine StepsG.cons rfl rfl (fun wq hS => ?_) ?_
        · go_simp
        refine StepsG.cons rfl rfl (fun wq hS => ?_) ?_
        · have s1 := rangeAt_dr (hdr.trans hS) hBR
          unfold Oper.wp
          rw [exec_loadR 59 (.tmp 16) rfl ⟨w.heap.size, 0, none⟩ rfl (run_load_part wq w.heap.size 0 59 (pad S) _ s1 Try.underlying59 rfl hi16)]
          exact ⟨rfl, hS⟩
        refine StepsG.cons rfl rfl (fun wq hS => ?_) ?_
        · unfold Oper.wp
          rw [exec_eql 59 59 (.tmp 15) (.tmp 17) rfl rfl rfl T_guardD (T_eqD 9998 (pad T) (pad S) hT16 hl16 wq)]
          exact ⟨rfl, hS⟩
        exact StepsG.nil
      case rest =>
        intro wq hS1
        simp only [putsOfG, Act.put, List.getElem?_toArray, List.getElem?_cons_succ, List.getElem?_cons_zero, Option.bind_some, Nat.reduceAdd, List.setIfInBounds_toArray, List.set_cons_zero, List.set_cons_succ]
        have hdq := hdr.trans hS1
        by_cases he : T = S
        · have hdec : decide (pad T = pad S) = true := decide_eq_true (HEQ.out.2 he)
          rw [hdec]
          have hws : IntKind.i64.wrap (y + x) = y + x := IntWalk.i64_in _ (by omega)
          clear hdec
          go_wp2_with fail
          refine wp_region_store [0, 1, 2, 3, 4, 5, 6, 7, 8, 9] [.slice (some ⟨gV, 0, none⟩) G.length cV, .int .i64 k, .pointer (some ⟨gV, k * 17, none⟩), .pointer (some ⟨gV, k * 17 + 16, none⟩), .int .i64 y, .pointer (some ⟨w.heap.size, 16, none⟩), .int .i64 x, .int .i64 (y + x), .pointer (some ⟨gV, k * 17, none⟩), .pointer (some ⟨gV, k * 17 + 16, none⟩)] (fun w' => Dr wq w') _ hmx (fun _ h => h) rfl (by kernel_rfl) (by kernel_rfl) rfl rfl (by kernel_rfl) (by kernel_rfl) _ rfl rfl rfl 3 _ _ rfl ⟨gV, k * 17 + 16, none⟩ (.int .i64 (y + x)) ?hx ?hy ?run ?steps ?rest
          case hx => simp only [putsOfG, Act.put, List.getElem?_toArray, List.getElem?_cons_succ, List.getElem?_cons_zero, Option.bind_some, Nat.reduceAdd, List.setIfInBounds_toArray, List.set_cons_zero, List.set_cons_succ]; rfl
          case hy => simp only [putsOfG, Act.put, List.getElem?_toArray, List.getElem?_cons_succ, List.getElem?_cons_zero, Option.bind_some, Nat.reduceAdd, List.setIfInBounds_toArray, List.set_cons_zero, List.set_cons_succ]; rfl
          case run =>
            intro wp hS
            have s1 := cell_dr (hdq.trans hS) hC16
            have s3 := froz_dr (hdq.trans hS) hfz16
            go_simp
          case steps =>
            simp only [putsOfG, Act.put, List.getElem?_toArray, List.getElem?_cons_succ, List.getElem?_cons_zero, Option.bind_some, Nat.reduceAdd, List.setIfInBounds_toArray, List.set_cons_zero, List.set_cons_succ]
            refine StepsG.cons rfl rfl (fun wq hS => ?_) ?_
            · go_simp
            refine StepsG.cons rfl rfl (fun wq hS => ?_) ?_
            · go_simp
            refine StepsG.cons rfl rfl (fun wq hS => ?_) ?_
            · go_simp
            refine StepsG.cons rfl rfl (fun wq hS => ?_) ?_
            · go_simp
            refine StepsG.cons rfl rfl (fun wq hS => ?_) ?_
            · have s1 := cell_dr (hdq.trans hS) hC16
              go_simp
            refine StepsG.cons rfl rfl (fun wq hS => ?_) ?_
            · go_simp
            refine StepsG.cons rfl rfl (fun wq hS => ?_) ?_
            · have s1 := cell_dr (hdq.trans hS) hBC
              go_simp
            refine StepsG.cons rfl rfl (fun wq hS => ?_) ?_
            · go_simp
            refine StepsG.cons rfl rfl (fun wq hS => ?_) ?_
            · go_simp
            refine StepsG.cons rfl rfl (fun wq hS => ?_) ?_
            · go_simp
            exact StepsG.nil
          case rest =>
            intro wp hS
            simp only [putsOfG, Act.put, List.getElem?_toArray, List.getElem?_cons_succ, List.getElem?_cons_zero, Option.bind_some, Nat.reduceAdd, List.setIfInBounds_toArray, List.set_cons_zero, List.set_cons_succ]
            have hdp := hdq.trans hS
            have hO := (H1.out.dr hdp).set hkR (show 16 < 17 by omega) (y + x)
            have hfin : (gRows G).set k ((gRows G)[k].set 16 (y + x)) = gRows (addG G S x) := by
              rw [HROW.out, gRow_set HGE.out.1, gRows_set, addG_at hlt HN.out (by rw [HT.out]; exact he), HT.out, he, HY.out]
            rw [hfin] at hO
            have hgb := gb_set (p := ⟨gV, k * 17 + 16, none⟩) (gb_dr hg1 hdp) rfl (.int .i64 (y + x))
            have HO := Lib.hid hO
            clear hO hfin
            go_wp2_with fail
            go_ret
            exact ⟨_, rfl, HO.out.more, hgb, fun g hg => .inl hg⟩
        · have hdec : decide (pad T = pad S) = false := decide_eq_false (fun e => he (HEQ.out.1 e))
          rw [hdec]
          clear hdec
          go_wp2_with fail
          go_roundw
          case rel => exact ⟨k + 1, by go_num, by omega, hdq, Lib.hid (fun j hj h1 => by
            rcases Nat.lt_or_ge j k with h3 | h3
            · exact HN.out j hj h3
            · obtain rfl : j = k := by omega
              rw [HT.out]; exact he)⟩
          case measure => simp [intOf] <;> omega
    · obtain rfl : k = G.length := by omega
      have HADD : Hid (addG G S x = G ++ [(S, x)]) := Lib.hid (addG_new fun j hj => HN.out j hj hj)
      clear hlt
      have hb2 : Blk wr w.heap.size 92 (arr (gRow (S, x))) := by obtain ⟨n, rfl⟩ := hdr; exact hb1
      have hO := H1.out.dr hdr
      have hzr : w1.heap.size = wr.heap.size := hdr.size.symm
      have hgr := gb_dr hg1 hdr
      have hL17 := gRow_len (g := (S, x)) HS.out
      have HLL := Lib.hid hL17
      have HO := Lib.hid hO
      have hRl : (gRows G).length ≤ 100000 := by rw [HLEN.out]; exact hl
      have hlo2 : lo ≤ wr.heap.size := by omega
      have HF : Hid (∀ (v' : Value) (a : World), (v'.ownBlock = (Value.slice aV G.length cV).ownBlock ∨ v'.ownBlock = some a.heap.size) → w.heap.size ≤ a.heap.size → ∀ g, v'.ownBlock = some g → (Value.slice aV G.length cV).ownBlock = some g ∨ w.heap.size ≤ g) := Lib.hid (fun v' a h1 h2 g hg => by
        rcases h1 with h1 | h1
        · left; rw [← h1]; exact hg
        · right; rw [h1] at hg; injection hg with hg; omega)
      have hzw : w.heap.size ≤ wr.heap.size := by omega
      have HAR : Hid (gRows (addG G S x) = gRows G ++ [gRow (S, x)]) := Lib.hid (by rw [HADD.out]; simp [gRows])
      have hsz17 : (arr (gRow (S, x))).size = 17 := by rw [arr_size, hL17]
      have HFOLD := Lib.hid (fold17 _ hL17)
      clear hzr hL17 hO
      go_wp2_with (first
        | (refine wpList_load_row rfl 92 (.tmp 3) rfl w.heap.size rfl 92 (arr (gRow (S, x))) (0, 0) _ hb2 Try.underlying92 rfl hiG ?_)
        | (at_builtin; (try rw [HFOLD.out]); refine wpList_append_w rfl (.tmp 31) (.tmp 33) 93 rfl lo _ 92 i0 _ 17 136 Try.underlying93 hi0 hz0 hz1 hz2 (by simp [Value.cells, arr, ints]) (by omega) _ (gRows G) rfl (HO.out.alloc _) (by simp <;> omega) wr.heap.size _ (gRow (S, x)) rfl HLL.out ?hrg hRl (by omega) ?_; rotate_left; intro v' w2 ho2 hg2 hat2))
      · go_ret
        exact ⟨v', rfl, by rw [HAR.out]; exact ho2, gb_trans hgr (gb_trans (World.grownBy_alloc wr _ _) hg2), HF.out v' _ hat2 (by simp <;> omega)⟩
      · exact rangeAt_blk (Blk.new wr 92 (arr (gRow (S, x)))) 0 (fun j hj => by rw [Nat.zero_add])
end Go.Proofs.Ythafbdpeignccaa
