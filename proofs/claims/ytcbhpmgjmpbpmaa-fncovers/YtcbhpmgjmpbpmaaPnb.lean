/-
  Contracts laid together (Ub, Ld, Mv, Bx, Ob, Oc, Ma, Lf, Fc, Uc).
-/
import Derived.Test.YtcbhpmgjmpbpmaaPna
import Derived.BigRegion
namespace Go.Proofs.Ytcbhpmgjmpbpmaa.Ua
set_option maxRecDepth 8000
set_option linter.unusedSimpArgs false
set_option linter.unusedVariables false
open Go Go.RowKit
open Num Pl Hr Hh Pq Ht Yh Yl Yu

/-- Two matches and a head are handed back. -/
def ThreeD (w : World) (e : Ending) (w' : World) : Prop :=
  ∃ aV gV cV V aM gM cM M aV' gV' cV' V' aM' gM' cM' M' gH H, e = .returned (.tuple #[.agg #[.slice aV V.length cV, .slice aM M.length cM], .agg #[.slice aV' V'.length cV', .slice aM' M'.length cM'], .agg #[.slice (some ⟨gH, 0, none⟩) 8 8]]) ∧ MT w' w.heap.size aV gV V aM gM M ∧ MT w' w.heap.size aV' gV' V' aM' gM' M' ∧ Mine w' gH H ∧ List.length H = 8 ∧ Po.Wide H ∧ Below w.heap.size w w'
theorem drew_heap (w : World) (x : Nat) : w.drew.heap[x]? = w.heap[x]? := rfl
theorem bits_wide (op : BinOp) (x y : Int) : Pm.I64 (bits op .i64 x y) := by
  have e : ∀ x : Int, IntKind.i64.wrap x = if (9223372036854775808 : Int) ≤ x % 18446744073709551616 then x % 18446744073709551616 - 18446744073709551616 else x % 18446744073709551616 := by
    intro x
    simp [IntKind.wrap, IntKind.bits, IntKind.signed]
  unfold bits Pm.I64
  simp only [e]
  split <;> omega

set_option maxHeartbeats 16000000 in
theorem three_any (a : Option Addr) (b off cap : Nat) (c : List Int) (w : World) (h : Rw.Rd w a b off c) :
    Calls Try.prog 56 #[.slice a c.length cap] w (ThreeD w) := by
  obtain ⟨W0, hW0⟩ : ∃ W0, W0 = ((w.alloc (.cells #[.slice none 0 0, .slice none 0 0] 25)).alloc (.cells #[.slice none 0 0, .slice none 0 0] 25)).alloc (.cells #[.slice none 0 0] 28) := ⟨_, rfl⟩
  have b0 : Below w.heap.size w W0 := by subst hW0; exact Rw.next (Rw.next (below_alloc1 _ _) (below_alloc1 _ _)) (below_alloc1 _ _)
  have kR : W0.heap[w.heap.size]? = some (.cells #[.slice none 0 0, .slice none 0 0] 25 (0, 0)) := by subst hW0; rw [at_old (by simp; omega), at_old (by simp)]; exact at_new rfl
  have kR2 : W0.heap[w.heap.size + 1]? = some (.cells #[.slice none 0 0, .slice none 0 0] 25 (0, 0)) := by subst hW0; rw [at_old (by simp)]; exact (by simpa using at_new (w := w.alloc (.cells #[.slice none 0 0, .slice none 0 0] 25)) (cs := #[.slice none 0 0, .slice none 0 0]) (t := 25) rfl)
  have kR3 : W0.heap[w.heap.size + 1 + 1]? = some (.cells #[.slice none 0 0] 28 (0, 0)) := by subst hW0; exact (by simpa using at_new (w := (w.alloc (.cells #[.slice none 0 0, .slice none 0 0] 25)).alloc (.cells #[.slice none 0 0, .slice none 0 0] 25)) (cs := #[.slice none 0 0]) (t := 28) rfl)
  have z0 : W0.heap.size = w.heap.size + 3 := by subst hW0; simp
  have hn := Dr.new_any a b off cap c W0 (h.below b0)
  obtain ⟨g, hgw⟩ : ∃ g, g = W0.heap.size := ⟨_, rfl⟩
  have hO : Mk.Only g w W0 := by subst hW0; exact Dr.only_alloc (Dr.only_alloc (Dr.only_alloc (Mk.Only.refl _ _) _) _) _
  have HG : Hid (g = W0.heap.size) := hgw
  have zg1 : w.heap.size + 3 ≤ g := by omega
  have zg2 : g ≤ w.heap.size + 3 := by omega
  rw [← hgw] at hn
  have hbT : c.length = 0 ∨ b < w.heap.size := Dr.rd_lt h
  clear h hgw b0 z0
  go_enter Try.func56, Try.ntmps56
  go_upto_region 3 with (first
    | (go_at_call 63; rw [← hW0]; clear hW0; refine hn.mono ?_; clear hn; rintro e w1 ⟨rfl, hC, hb⟩; rw [HG.out] at hb; replace kR := (hb.block _ (Ea.blk_lt kR)).trans kR; replace kR2 := (hb.block _ (Ea.blk_lt kR2)).trans kR2; replace kR3 := (hb.block _ (Ea.blk_lt kR3)).trans kR3; replace hO := Yu.only_below hO hb; have z1 := Dr.cur_lt hC; clear hb)
    | (go_at_call 138; refine (two_any _ _ _ _ _ _ _ hC).mono ?_; rintro e w2 ⟨aV, gV, cV, V, aM, gM, cM, M, aV', gV', cV', V', aM', gM', cM', M', rfl, mA, mB, hC1, hO1⟩; have z2 := hO1.size; replace mA := mA.low (lo' := g + 1) (by omega); replace mB := mB.low (lo' := g + 1) (by omega); replace kR := (hO1.block _ (Ea.blk_lt kR) (by simp; omega)).trans kR; replace kR2 := (hO1.block _ (Ea.blk_lt kR2) (by simp; omega)).trans kR2; replace kR3 := (hO1.block _ (Ea.blk_lt kR3) (by simp; omega)).trans kR3; replace hO := Dr.only_trans hO hO1; replace hC := hC1; clear hC1 hO1))
  obtain ⟨W4, hW4⟩ : ∃ W4, W4 = (w2.alloc (.cells #[.slice aV V.length cV, .slice aM M.length cM] 25)).alloc (.cells #[.slice aV' V'.length cV', .slice aM' M'.length cM'] 25) := ⟨_, rfl⟩
  have hb : Below w2.heap.size w2 W4 := by subst hW4; exact Rw.next (below_alloc1 _ _) (below_alloc1 _ _)
  have kT : W4.heap[w2.heap.size]? = some (.cells #[.slice aV V.length cV, .slice aM M.length cM] 25 (0, 0)) := by subst hW4; rw [at_old (by simp)]; exact at_new rfl
  have kU : W4.heap[w2.heap.size + 1]? = some (.cells #[.slice aV' V'.length cV', .slice aM' M'.length cM'] 25 (0, 0)) := by subst hW4; exact (by simpa using at_new (w := w2.alloc (.cells #[.slice aV V.length cV, .slice aM M.length cM] 25)) (cs := #[.slice aV' V'.length cV', .slice aM' M'.length cM']) (t := 25) rfl)
  have sT : w.heap.size + 1 + 1 < w2.heap.size := Ea.blk_lt kR3
  have sg : g < w2.heap.size := by omega
  replace hC : Dr.Cur W4 g a b off cap c := by subst hW4; exact Dr.cur_alloc (Dr.cur_alloc hC _) _
  have far : Hid (∀ x, g + 1 ≤ x → x < w2.heap.size → W4.heap[x]? = w2.heap[x]?) := fun x _ hx => hb.block x hx
  replace kR := (hb.block _ (Ea.blk_lt kR)).trans kR
  replace kR2 := (hb.block _ (Ea.blk_lt kR2)).trans kR2
  replace kR3 := (hb.block _ (Ea.blk_lt kR3)).trans kR3
  replace hO := Yu.only_below hO hb
  have mAB : w2.heap.size = w2.heap.size := rfl
  rw [← hW4]
  clear hW4 hb z2 z1
  obtain ⟨T, hT⟩ : ∃ T, T = w2.heap.size := ⟨_, rfl⟩
  rw [← hT] at kT kU sT sg far ⊢
  have hT1 : w2.heap.size ≤ T := by omega
  clear hT mAB HG
  replace hbT : c.length = 0 ∨ b < T := by omega
  go_upto_region 4 with (go_at_call 139; refine (Hw2.head_wide _ _ _ _ _ _ _ hC).mono ?_; rintro e w5 ⟨gH, H, rfl, mH, lH, wH, hgH, hC1, hO1⟩; have lU := Ea.blk_lt kU; have ltT := Ea.blk_lt kT; have far2 : Hid (∀ x, g + 1 ≤ x → x < T → w5.heap[x]? = w2.heap[x]?) := (fun x h1 h2 => (hO1.block x (by omega) (by simp; omega)).trans (far.out x h1 h2)); clear far; have far := far2; clear far2 ltT; replace kR := (hO1.block _ (Ea.blk_lt kR) (by simp; omega)).trans kR; replace kR2 := (hO1.block _ (Ea.blk_lt kR2) (by simp; omega)).trans kR2; replace kR3 := (hO1.block _ (Ea.blk_lt kR3) (by simp; omega)).trans kR3; replace kT := (hO1.block _ (Ea.blk_lt kT) (by simp; omega)).trans kT; replace kU := (hO1.block _ (Ea.blk_lt kU) (by simp; omega)).trans kU; replace hO := Dr.only_trans hO hO1; replace hC := hC1; clear hC1 hO1)
  have lgH : gH < w5.heap.size := mH.row.lt
  obtain ⟨W6, hW6⟩ : ∃ W6, W6 = w5.alloc (.cells #[.slice (some ⟨gH, 0, none⟩) 8 8] 28) := ⟨_, rfl⟩
  have hb : Below w5.heap.size w5 W6 := by subst hW6; exact below_alloc1 _ _
  have kS : W6.heap[w5.heap.size]? = some (.cells #[.slice (some ⟨gH, 0, none⟩) 8 8] 28 (0, 0)) := by subst hW6; exact at_new rfl
  replace mH := mH.below hb
  replace hC : Dr.Cur W6 g a b off cap c := by subst hW6; exact Dr.cur_alloc hC _
  have ltT := Ea.blk_lt kT
  have far2 : Hid (∀ x, g + 1 ≤ x → x < T → W6.heap[x]? = w2.heap[x]?) := (fun x h1 h2 => (hb.block x (by omega)).trans (far.out x h1 h2))
  clear far
  have far := far2
  clear far2 ltT
  replace kR := (hb.block _ (Ea.blk_lt kR)).trans kR
  replace kR2 := (hb.block _ (Ea.blk_lt kR2)).trans kR2
  replace kR3 := (hb.block _ (Ea.blk_lt kR3)).trans kR3
  replace kT := (hb.block _ (Ea.blk_lt kT)).trans kT
  replace kU := (hb.block _ (Ea.blk_lt kU)).trans kU
  replace hO := Yu.only_below hO hb
  rw [← hW6]
  clear hW6 hb
  obtain ⟨S, hS⟩ : ∃ S, S = w5.heap.size := ⟨_, rfl⟩
  rw [← hS] at kS lgH ⊢
  clear hS
  have lHT : T + 1 < gH := by omega
  clear lU hgH
  obtain ⟨q0, q1⟩ := Pm.two kU
  have hOk := Ms.okS_any aV' aM' gV' 0 cV' gM' 0 cM' V' M'
  cases hm : Po.matchB V' M' with
  | false =>
    rw [hm] at hOk
    go_upto_if 25 with (go_at_call 132; refine (hOk _ (mB.keep fun x hx hl => far.out x hx (by omega)).rV (mB.keep fun x hx hl => far.out x hx (by omega)).rM mB.wV).mono ?_; rintro e w7 ⟨rfl, hb⟩; clear q0 q1; replace mH := mH.below hb; have ltT := Ea.blk_lt kT; have far2 : Hid (∀ x, g + 1 ≤ x → x < T → w7.heap[x]? = w2.heap[x]?) := (fun x h1 h2 => (hb.block x (by omega)).trans (far.out x h1 h2)); clear far; have far := far2; clear far2 ltT; replace kR := (hb.block _ (Ea.blk_lt kR)).trans kR; replace kR2 := (hb.block _ (Ea.blk_lt kR2)).trans kR2; replace kR3 := (hb.block _ (Ea.blk_lt kR3)).trans kR3; replace kT := (hb.block _ (Ea.blk_lt kT)).trans kT; replace kU := (hb.block _ (Ea.blk_lt kU)).trans kU; replace kS := (hb.block _ (Ea.blk_lt kS)).trans kS; replace hO := Yu.only_below hO hb; clear hb hC)
    obtain ⟨p0, p1⟩ := Pm.two kT
    obtain ⟨q0, q1⟩ := Pm.two kU
    have s0 := Hh.one kS
    obtain ⟨r0, r1⟩ := Pm.two kR
    obtain ⟨u0, u1⟩ := Pm.two kR2
    have v0 := Hh.one kR3
    have fR := Bl.free kR
    have fR2 := Bl.free kR2
    have fR3 := Bl.free kR3
    go_wp2
    go_region
    all_goals
      go_wp2
      refine bodyPost_ret (v := .tuple #[.agg #[.slice aV V.length cV, .slice aM M.length cM], .agg #[.slice aV' V'.length cV', .slice aM' M'.length cM'], .agg #[.slice (some ⟨gH, 0, none⟩) 8 8]]) (by simp [results, Try.results56, go_sem, r0, r1, u0, u1, v0]) rfl ⟨aV, gV, cV, V, aM, gM, cM, M, aV', gV', cV', V', aM', gM', cM', M', gH, H, rfl, ?_, ?_, ?_, lH, wH, ?_⟩
      · refine MT.drew (MT.low (lo := g + 1) (mA.keep fun x hx hl => ?_) (by omega))
        simp only [set_far (show x ≠ w.heap.size by omega), set_far (show x ≠ w.heap.size + 1 by omega), set_far (show x ≠ w.heap.size + 1 + 1 by omega)]
        exact far.out x hx (by omega)
      · refine MT.drew (MT.low (lo := g + 1) (mB.keep fun x hx hl => ?_) (by omega))
        simp only [set_far (show x ≠ w.heap.size by omega), set_far (show x ≠ w.heap.size + 1 by omega), set_far (show x ≠ w.heap.size + 1 + 1 by omega)]
        exact far.out x hx (by omega)
      · refine mine_of mH ?_
        simp only [drew_heap, set_far (show gH ≠ w.heap.size by omega), set_far (show gH ≠ w.heap.size + 1 by omega), set_far (show gH ≠ w.heap.size + 1 + 1 by omega)]
      · refine Mk.Only.below (g := g) ?_ (Below.refl _ w) (Nat.le_refl _) (by omega)
        repeat (first | with_reducible exact hO | refine only_drew ?_ | refine Dr.only_set ?_ (by omega))
  | true =>
    rw [hm] at hOk
    have HL : Hid (V'.length = 8 ∧ M'.length = 8) := Lb.lens hm
    go_upto_if 25 with (first
      | (go_at_call 132; refine (hOk _ (mB.keep fun x hx hl => far.out x hx (by omega)).rV (mB.keep fun x hx hl => far.out x hx (by omega)).rM mB.wV).mono ?_; rintro e w7 ⟨rfl, hb⟩; clear q0 q1; replace mH := mH.below hb; replace hC := Dr.cur_keep (B := T) hC (fun k hk => hb.block k (by have := Ea.blk_lt kT; omega)) sg hbT; have ltT := Ea.blk_lt kT; have far2 : Hid (∀ x, g + 1 ≤ x → x < T → w7.heap[x]? = w2.heap[x]?) := (fun x h1 h2 => (hb.block x (by omega)).trans (far.out x h1 h2)); clear far; have far := far2; clear far2 ltT; replace kR := (hb.block _ (Ea.blk_lt kR)).trans kR; replace kR2 := (hb.block _ (Ea.blk_lt kR2)).trans kR2; replace kR3 := (hb.block _ (Ea.blk_lt kR3)).trans kR3; replace kT := (hb.block _ (Ea.blk_lt kT)).trans kT; replace kU := (hb.block _ (Ea.blk_lt kU)).trans kU; replace kS := (hb.block _ (Ea.blk_lt kS)).trans kS; replace hO := Yu.only_below hO hb; clear hb)
      | (go_at_call 74; refine (Dr.below_any _ _ _ _ _ _ 2 _ hC (by omega) (by omega)).mono ?_; rintro e w8 ⟨q, rfl, _, _, hC1, hO1⟩; replace mH := own_onlyN mH hO1 (by omega); have ltT := Ea.blk_lt kT; have far2 : Hid (∀ x, g + 1 ≤ x → x < T → w8.heap[x]? = w2.heap[x]?) := (fun x h1 h2 => (hO1.block x (by omega) (by simp; omega)).trans (far.out x h1 h2)); clear far; have far := far2; clear far2 ltT; replace kR := (hO1.block _ (Ea.blk_lt kR) (by simp; omega)).trans kR; replace kR2 := (hO1.block _ (Ea.blk_lt kR2) (by simp; omega)).trans kR2; replace kR3 := (hO1.block _ (Ea.blk_lt kR3) (by simp; omega)).trans kR3; replace kT := (hO1.block _ (Ea.blk_lt kT) (by simp; omega)).trans kT; replace kU := (hO1.block _ (Ea.blk_lt kU) (by simp; omega)).trans kU; replace kS := (hO1.block _ (Ea.blk_lt kS) (by simp; omega)).trans kS; replace hO := Dr.only_trans hO hO1; replace hC := hC1; clear hC1 hO1))
    by_cases e8 : q = 0
    · subst e8
      have hC0 := hC
      clear hC hC0
      have HA : Hid (aV' = some ⟨gV', 0, none⟩ ∧ aM' = some ⟨gM', 0, none⟩) := ⟨mB.rV.head (by have := HL.out; omega), mB.rM.head (by have := HL.out; omega)⟩
      have cV := mB.rV.cell
      have cM := mB.rM.cell
      have HCV : Hid (∀ k, k < 8 → w2.cell? ⟨gV', k, none⟩ = some (.int .i64 (V'.getD k 0))) := fun k hk => by have q := cV k (by have := HL.out; omega); rwa [Nat.zero_add] at q
      have HCM : Hid (∀ k, k < 8 → w2.cell? ⟨gM', k, none⟩ = some (.int .i64 (M'.getD k 0))) := fun k hk => by have q := cM k (by have := HL.out; omega); rwa [Nat.zero_add] at q
      have bV := mB.lV
      have bM := mB.lM
      clear cV cM
      rw [HL.out.1, HL.out.2, HA.out.1, HA.out.2] at kU
      have s0 := Hh.one kS
      go_wp2
      go_loopw [29] (fun u wr => ∃ (k : Nat) (H : List Int), k ≤ 8 ∧ u = .int .i64 k ∧ Mine wr gH H ∧ H.length = 8 ∧ Po.Wide H ∧ wr.heap[w.heap.size]? = some (.cells #[.slice none 0 0, .slice none 0 0] 25 (0, 0)) ∧ wr.heap[w.heap.size + 1]? = some (.cells #[.slice none 0 0, .slice none 0 0] 25 (0, 0)) ∧ wr.heap[w.heap.size + 1 + 1]? = some (.cells #[.slice none 0 0] 28 (0, 0)) ∧ wr.heap[T]? = some (.cells #[.slice aV V.length cV, .slice aM M.length cM] 25 (0, 0)) ∧ wr.heap[T + 1]? = some (.cells #[.slice (some ⟨gV', 0, none⟩) 8 cV', .slice (some ⟨gM', 0, none⟩) 8 cM'] 25 (0, 0)) ∧ wr.heap[S]? = some (.cells #[.slice (some ⟨gH, 0, none⟩) 8 8] 28 (0, 0)) ∧ (∀ x, g + 1 ≤ x → x < T → wr.heap[x]? = w2.heap[x]?) ∧ Mk.Only g w wr) (fun u _ => 8 - (intOf u).toNat)
      case atStart => exact ⟨0, H, Nat.zero_le _, rfl, mH, lH, wH, kR, kR2, kR3, kT, kU, kS, far.out, hO⟩
      case round =>
        clear mH lH wH kR kR2 kR3 kT kU kS far hO s0
        obtain ⟨k, X, hk, rfl, mH, lH, wH, kR, kR2, kR3, kT, kU, kS, far', hO⟩ := hrel
        have far : Hid (∀ x, g + 1 ≤ x → x < T → wr.heap[x]? = w2.heap[x]?) := far'
        clear far'
        by_cases hlt : k < 8
        · have hkz : (k : Int) < 8 := by omega
          have c1 := HCV.out k hlt
          have c2 := HCM.out k hlt
          have l1 := World.block_lt_of_cell? _ _ c1
          have l2 := World.block_lt_of_cell? _ _ c2
          simp only at l1 l2
          replace c1 := (World.cell?_of_block (far.out gV' bV (by omega))).trans c1
          replace c2 := (World.cell?_of_block (far.out gM' bM (by omega))).trans c2
          have cH := World.rowIs.cell mH.row (i := k) (by omega)
          have fH := World.rowIs.frozen mH.row k
          obtain ⟨q0, q1⟩ := Pm.two kU
          have s0 := Hh.one kS
          generalize V'.getD k 0 = y1 at *
          generalize M'.getD k 0 = y2 at *
          generalize X.getD k 0 = y3 at *
          clear HCV HCM HL HA
          go_wp2
          go_region
          all_goals
            go_wp2
            obtain ⟨Y, hY⟩ : ∃ Y, Y = bits .or .i64 (bits .andNot .i64 y3 y2) y1 := ⟨_, rfl⟩
            have wY : Pm.I64 Y := by rw [hY]; exact bits_wide _ _ _
            rw [← hY]
            clear hY
            go_roundw
            case rel =>
              exact ⟨k + 1, X.set k Y, by omega, by go_num, mine_of (mine_put mH) rfl, by simp [lH], Hw2.wide_set wH wY, Ea.blk_other kR (by omega), Ea.blk_other kR2 (by omega), Ea.blk_other kR3 (by omega), Ea.blk_other kT (by omega), Ea.blk_other kU (by omega), Ea.blk_other kS (by omega), fun x h1 h2 => (set_far (show x ≠ gH by omega)).trans (far.out x h1 h2), only_drew (Dr.only_set hO (by omega))⟩
            case measure => simp [intOf]; omega
        · have he : k = 8 := by omega
          subst he
          clear hlt hk
          obtain ⟨lV8, lM8⟩ := HL.out
          obtain ⟨p0, p1⟩ := Pm.two kT
          obtain ⟨q0, q1⟩ := Pm.two kU
          have s0 := Hh.one kS
          obtain ⟨r0, r1⟩ := Pm.two kR
          obtain ⟨u0, u1⟩ := Pm.two kR2
          have v0 := Hh.one kR3
          have fR := Bl.free kR
          have fR2 := Bl.free kR2
          have fR3 := Bl.free kR3
          go_wp2
          go_region
          all_goals
            go_wp2
            refine bodyPost_ret (v := .tuple #[.agg #[.slice aV V.length cV, .slice aM M.length cM], .agg #[.slice (some ⟨gV', 0, none⟩) 8 cV', .slice (some ⟨gM', 0, none⟩) 8 cM'], .agg #[.slice (some ⟨gH, 0, none⟩) 8 8]]) (by simp [results, Try.results56, go_sem, r0, r1, u0, u1, v0]) rfl ⟨aV, gV, cV, V, aM, gM, cM, M, aV', gV', cV', V', aM', gM', cM', M', gH, X, by rw [lV8, lM8, HA.out.1, HA.out.2], ?_, ?_, ?_, lH, wH, ?_⟩
            · refine MT.drew (MT.low (lo := g + 1) (mA.keep fun x hx hl => ?_) (by omega))
              simp only [set_far (show x ≠ w.heap.size by omega), set_far (show x ≠ w.heap.size + 1 by omega), set_far (show x ≠ w.heap.size + 1 + 1 by omega)]
              exact far.out x hx (by omega)
            · refine MT.drew (MT.low (lo := g + 1) (mB.keep fun x hx hl => ?_) (by omega))
              simp only [set_far (show x ≠ w.heap.size by omega), set_far (show x ≠ w.heap.size + 1 by omega), set_far (show x ≠ w.heap.size + 1 + 1 by omega)]
              exact far.out x hx (by omega)
            · refine mine_of mH ?_
              simp only [drew_heap, set_far (show gH ≠ w.heap.size by omega), set_far (show gH ≠ w.heap.size + 1 by omega), set_far (show gH ≠ w.heap.size + 1 + 1 by omega)]
            · refine Mk.Only.below (g := g) ?_ (Below.refl _ w) (Nat.le_refl _) (by omega)
              repeat (first | with_reducible exact hO | refine only_drew ?_ | refine Dr.only_set ?_ (by omega))
    · have b8 : (q == 0) = false := by simpa using e8
      obtain ⟨p0, p1⟩ := Pm.two kT
      obtain ⟨q0, q1⟩ := Pm.two kU
      have s0 := Hh.one kS
      obtain ⟨r0, r1⟩ := Pm.two kR
      obtain ⟨u0, u1⟩ := Pm.two kR2
      have v0 := Hh.one kR3
      have fR := Bl.free kR
      have fR2 := Bl.free kR2
      have fR3 := Bl.free kR3
      go_wp2
      go_region
      all_goals
        go_wp2
        refine bodyPost_ret (v := .tuple #[.agg #[.slice aV V.length cV, .slice aM M.length cM], .agg #[.slice aV' V'.length cV', .slice aM' M'.length cM'], .agg #[.slice (some ⟨gH, 0, none⟩) 8 8]]) (by simp [results, Try.results56, go_sem, r0, r1, u0, u1, v0]) rfl ⟨aV, gV, cV, V, aM, gM, cM, M, aV', gV', cV', V', aM', gM', cM', M', gH, H, rfl, ?_, ?_, ?_, lH, wH, ?_⟩
        · refine MT.drew (MT.low (lo := g + 1) (mA.keep fun x hx hl => ?_) (by omega))
          simp only [set_far (show x ≠ w.heap.size by omega), set_far (show x ≠ w.heap.size + 1 by omega), set_far (show x ≠ w.heap.size + 1 + 1 by omega)]
          exact far.out x hx (by omega)
        · refine MT.drew (MT.low (lo := g + 1) (mB.keep fun x hx hl => ?_) (by omega))
          simp only [set_far (show x ≠ w.heap.size by omega), set_far (show x ≠ w.heap.size + 1 by omega), set_far (show x ≠ w.heap.size + 1 + 1 by omega)]
          exact far.out x hx (by omega)
        · refine mine_of mH ?_
          simp only [drew_heap, set_far (show gH ≠ w.heap.size by omega), set_far (show gH ≠ w.heap.size + 1 by omega), set_far (show gH ≠ w.heap.size + 1 + 1 by omega)]
        · refine Mk.Only.below (g := g) ?_ (Below.refl _ w) (Nat.le_refl _) (by omega)
          repeat (first | with_reducible exact hO | refine only_drew ?_ | refine Dr.only_set ?_ (by omega))

end Go.Proofs.Ytcbhpmgjmpbpmaa.Ua
namespace Go.Proofs.Ytcbhpmgjmpbpmaa.Ld
set_option maxRecDepth 8000
open Go Go.RowKit
open Num Pl Hr Hh Hf Hg Pa Pm Po Pe Rg Lb Lc Bw Mo Mp Mq
set_option linter.unusedVariables false

/-- The match of a head: nothing where the head isn't right. -/
def ofV (H : List Int) : List Int := if headB H = true then lst (nth H) else []
def ofM (H : List Int) : List Int := if headB H = true then lst fullI else []
theorem of_any {H : List Int} {a : Option Addr} {b o : Nat} (c : Nat) {w : World} (h : Rd w a b o H) : ∀ w1, Below w.heap.size w w1 → Calls Try.prog 144 #[.agg #[.slice a H.length c]] w1 (ResM w1 (ofV H) (ofM H)) := by
  intro w1 hb
  have h1 := h.below hb
  unfold ofV ofM
  cases hh : headB H with
  | false =>
    refine of_no a H.length c w1 (fun w2 h2 => ?_)
    have := implOk_any a b o c H w2 (h1.below h2)
    rw [hh] at this
    exact this
  | true =>
    have l8 := Mq.head_len hh
    obtain rfl := rd_some h1 l8
    have g := h1.cell
    have t : ∀ w2, Below w1.heap.size w1 w2 → Calls Try.prog 173 #[.agg #[.slice (some ⟨b, o, none⟩) H.length c]] w2 fun e w' => e = .returned (.bool true) ∧ Below w2.heap.size w2 w' := by
      intro w2 h2
      have := implOk_any _ b o c H w2 (h1.below h2)
      rw [hh] at this
      exact this
    rw [l8] at t g ⊢
    exact of_yes b o c H w1 g t
theorem wide_ofV {H : List Int} (hW : Wide H) : Wide (ofV H) := by
  unfold ofV
  cases headB H with
  | false => intro k; simp [I64]
  | true => exact wide_lst (fun k _ => hW k)
theorem ofB (H : List Int) : matchB (ofV H) (ofM H) = headB H := by
  unfold ofV ofM
  cases hh : headB H with
  | false => rfl
  | true => exact of_ok hh
/-- What the program's Hits answers. -/
def hitB (V M H : List Int) : Bool := (matchB V M && matchB (ofV H) (ofM H)) && sameB (fun k => bits .and .i64 (pv (ofV H) (ofM H) k) (pm V M k)) (fun k => bits .and .i64 (pm (ofV H) (ofM H) k) (pm V M k)) (pv V M) (pm V M)
theorem hits_any (V M H : List Int) (wV : Wide V) (wH : Wide H) : CMH 59 V M H (Bo (hitB V M H)) := by
  intro a a' b o c b' o' c' p q r s w h1 h2 h3
  refine hits_l a a' _ c _ c' p _ s (ofV H) (ofM H) _ w (of_any s h3) ?_
  intro w1 hb aV aM gV cV gM cM r1 r2
  exact Mi.covers_l a a' aV aM _ _ _ _ c c' cV cM _ _ _ _ _ w1 (Mi.two_any c c' cV cM (h1.below hb) (h2.below hb) wV r1 r2 (wide_ofV wH))
theorem headT {H : List Int} {a : Option Addr} {b o : Nat} (c : Nat) {w : World} (h1 : Rd w a b o H) {P : Bool} (hP : headB H = P) :
    ∀ w1, Below w.heap.size w w1 → Calls Try.prog 68 #[.agg #[.slice a H.length c]] w1 fun e w' => e = .returned (.bool P) ∧ Below w1.heap.size w1 w' := by
  intro w1 hb
  have := specOk_any a b o c H w1 (h1.below hb)
  rw [hP] at this
  exact this
end Go.Proofs.Ytcbhpmgjmpbpmaa.Ld
namespace Go.Proofs.Ytcbhpmgjmpbpmaa.Mv
set_option maxRecDepth 8000
open Go Go.RowKit
open Num Pl Hr Hh Hf Hg Pa Pm Po Pq Mi Bw Mo Mp Mj
set_option linter.unusedSimpArgs false
set_option linter.unusedVariables false

/-- A store of one pair into the pairs, at the head of a list of operations. -/
theorem store64 {ops : Array Oper} {rest : List Oper} {o : Oper} {a : Act} {w : World} {Q : Exit → Act → World → Prop} (hgd : o.guard = none) (x y : Operand) (ho : o.op = .store 140 x y)
    {g k : Nat} (hx : a.eval x = .pointer (some ⟨g, k * 2, none⟩)) {p q : Int} (hy : a.eval y = .agg #[.int .i64 p, .int .i64 q]) {v m : Nat → Int} (h : Has w g v m) (hk8 : k < 8)
    (hk : ∀ w', Has w' g (upd v k p) (upd m k q) → Same g w w' → wpList Try.prog ops Q rest (a.put o.dst undef) w') : wpList Try.prog ops Q (o :: rest) a w := by
  refine wpList_store_mid hgd 140 x y ho g (k * 2) _ hx hy ?_ (by kernel_rfl) (by simp [Value.oneCell']) ?_
  · intro j hj
    have hj2 : j < 2 := hj
    rw [cell_of_row w g _ _ _ _ h, enc_at _ _ (by omega)]
    exact ⟨rfl, h.free _⟩
  · refine hk _ ((h.set_v hk8 p).set_m hk8 q) ⟨rfl, rfl, rfl, ?_, fun j hj => ?_⟩
    · show ((w.setCell ⟨g, k * 2, none⟩ (.int .i64 p)).setCell ⟨g, k * 2 + 1, none⟩ (.int .i64 q)).heap.size = _
      simp
    · exact blk_set (blk_set rfl hj) hj

/-- What is asked is right. -/
def bitsB (f v n : Int) : Bool := fits f v && decide (0 ≤ n ∧ n ≤ fb f)

end Go.Proofs.Ytcbhpmgjmpbpmaa.Mv
namespace Go.Proofs.Ytcbhpmgjmpbpmaa.Bx
set_option maxRecDepth 8000
open Go Go.RowKit
open Num Bw Mo

/-- The n highest of the b bits of v. -/
def hi (v b n : Nat) : Nat := v / 2 ^ (b - n) * 2 ^ (b - n)
theorem hi_zero {v b : Nat} (h : v < 2 ^ b) : hi v b 0 = 0 := by
  unfold hi
  rw [Nat.sub_zero, Nat.div_eq_of_lt h, Nat.zero_mul]
theorem hi_succ {v b n : Nat} (h : n < b) : hi v b (n + 1) = hi v b n + (v / 2 ^ (b - (n + 1)) % 2) * 2 ^ (b - (n + 1)) := Bt.high_succ h
theorem hi_le (v b n : Nat) : hi v b n ≤ v := Nat.div_mul_le_self _ _
theorem and_top {v b n : Nat} (hv : v < 2 ^ b) (hn : n ≤ b) : v &&& Bt.top b n = hi v b n := by
  apply Nat.eq_of_testBit_eq
  intro i
  unfold Bt.top hi
  rw [Nat.testBit_and, Nat.testBit_mul_two_pow, Nat.testBit_mul_two_pow, Nat.testBit_two_pow_sub_one, Nat.testBit_div_two_pow]
  by_cases h1 : b - n ≤ i
  · have e : b - n + (i - (b - n)) = i := by omega
    rw [Nat.add_comm] at e
    simp only [h1, decide_true, Bool.true_and]
    have e2 : i - (b - n) + (b - n) = i := by omega
    by_cases h2 : i < b
    · have : i - (b - n) < n := by omega
      simp [this, e2]
    · have hb := Bt.testBit_out hv (Nat.le_of_not_lt h2)
      simp [e2, hb]
  · simp [h1]
theorem top_zero (b : Nat) : Bt.top b 0 = 0 := by simp [Bt.top]
/-- The bit that is put next. -/
def bitN (b i : Nat) : Nat := 2 ^ (b - i) / 2
theorem bitN_lt {b i : Nat} (h : i < b) : bitN b i = 2 ^ (b - (i + 1)) := by
  unfold bitN
  have e : b - i = (b - (i + 1)) + 1 := by omega
  rw [e, Nat.pow_succ, Nat.mul_div_cancel _ (by decide)]
theorem bitN_half {b i : Nat} (h : i < b) : bitN b i / 2 = bitN b (i + 1) := by rw [bitN_lt h]; rfl

end Go.Proofs.Ytcbhpmgjmpbpmaa.Bx
namespace Go.Proofs.Ytcbhpmgjmpbpmaa.Ob
set_option maxRecDepth 8000

theorem and_split (lo h m0 m : Nat) (hl : lo < 256) (hm : m0 < 256) : (lo + 256 * h) &&& (m0 + 256 * m) = (lo &&& m0) + 256 * (h &&& m) := by
  have e1 : ((lo + 256 * h) &&& (m0 + 256 * m)) % 2 ^ 8 = lo &&& m0 := by
    rw [Nat.and_mod_two_pow, show (lo + 256 * h) % 2 ^ 8 = lo from by omega, show (m0 + 256 * m) % 2 ^ 8 = m0 from by omega]
  have e2 : ((lo + 256 * h) &&& (m0 + 256 * m)) / 2 ^ 8 = h &&& m := by
    rw [Nat.and_div_two_pow, show (lo + 256 * h) / 2 ^ 8 = h from by omega, show (m0 + 256 * m) / 2 ^ 8 = m from by omega]
  omega

/-- The byte m0, k times. -/
def rep (m0 : Nat) : Nat → Nat
  | 0 => 0
  | k + 1 => m0 + 256 * rep m0 k
/-- The k low bytes of x, each by f. -/
def join (f : Nat → Nat) : Nat → Nat → Nat
  | 0, _ => 0
  | k + 1, x => f (x % 256) + 256 * join f k (x / 256)
theorem join_id : ∀ k x, x < 256 ^ k → join (fun b => b) k x = x
  | 0, x, h => by simp at h; simp [join, h]
  | k + 1, x, h => by
    simp only [join]
    rw [join_id k (x / 256) (by rw [Nat.pow_succ] at h; omega)]
    omega

def sA (x m : Nat) : Nat := (x / 2 &&& m) + (x &&& m)
def sB (x m : Nat) : Nat := (x / 4 &&& m) + (x &&& m)
theorem byteA : ∀ lo, lo < 256 → ∀ t, t < 2 → (lo / 2 + 128 * t) &&& 85 = lo / 2 &&& 85 := by decide +kernel
theorem byteB : ∀ lo, lo < 256 → ∀ t, t < 4 → (lo / 4 + 64 * t) &&& 51 = lo / 4 &&& 51 := by decide +kernel
theorem stepA (lo h m : Nat) (hl : lo < 256) : sA (lo + 256 * h) (85 + 256 * m) = sA lo 85 + 256 * sA h m := by
  unfold sA
  have e : (lo + 256 * h) / 2 = (lo / 2 + 128 * (h % 2)) + 256 * (h / 2) := by omega
  rw [e, and_split _ _ _ _ (by omega) (by omega), and_split _ _ _ _ hl (by omega), byteA lo hl _ (Nat.mod_lt _ (by omega))]
  omega
theorem stepB (lo h m : Nat) (hl : lo < 256) : sB (lo + 256 * h) (51 + 256 * m) = sB lo 51 + 256 * sB h m := by
  unfold sB
  have e : (lo + 256 * h) / 4 = (lo / 4 + 64 * (h % 4)) + 256 * (h / 4) := by omega
  rw [e, and_split _ _ _ _ (by omega) (by omega), and_split _ _ _ _ hl (by omega), byteB lo hl _ (Nat.mod_lt _ (by omega))]
  omega
theorem joinA (f : Nat → Nat) (hf : ∀ b, b < 256 → f b < 256) : ∀ k x, sA (join f k x) (rep 85 k) = join (fun b => sA (f b) 85) k x
  | 0, x => by simp [join, rep, sA]
  | k + 1, x => by
    simp only [join, rep]
    rw [stepA _ _ _ (hf _ (Nat.mod_lt _ (by omega))), joinA f hf k]
theorem joinB (f : Nat → Nat) (hf : ∀ b, b < 256 → f b < 256) : ∀ k x, sB (join f k x) (rep 51 k) = join (fun b => sB (f b) 51) k x
  | 0, x => by simp [join, rep, sB]
  | k + 1, x => by
    simp only [join, rep]
    rw [stepB _ _ _ (hf _ (Nat.mod_lt _ (by omega))), joinB f hf k]
theorem join_low (g : Nat → Nat) (hg : ∀ b, b < 256 → g b / 16 ≤ 4 ∧ g b % 16 ≤ 4) : ∀ k x, join g k x % 16 ≤ 4
  | 0, x => by simp [join]
  | k + 1, x => by
    simp only [join]
    have := (hg _ (Nat.mod_lt x (by omega : 0 < 256))).2
    omega
theorem joinC (g : Nat → Nat) (hg : ∀ b, b < 256 → g b / 16 ≤ 4 ∧ g b % 16 ≤ 4) : ∀ k x, (join g k x / 16 + join g k x) &&& rep 15 k = join (fun b => g b / 16 + g b % 16) k x
  | 0, x => by simp [join, rep]
  | k + 1, x => by
    have h0 := hg _ (Nat.mod_lt x (by omega : 0 < 256))
    have h1 := join_low g hg k (x / 256)
    have ih := joinC g hg k (x / 256)
    simp only [join, rep]
    generalize g (x % 256) = a at *
    generalize join g k (x / 256) = y at *
    have e : (a + 256 * y) / 16 + (a + 256 * y) = (a / 16 + 16 * (y % 16) + a) + 256 * (y / 16 + y) := by omega
    rw [e, and_split _ _ _ _ (by omega) (by omega), ih]
    have e2 : (a / 16 + 16 * (y % 16) + a) &&& 15 = a / 16 + a % 16 := by
      rw [show (15 : Nat) = 2 ^ 4 - 1 from rfl, Nat.and_two_pow_sub_one_eq_mod]
      omega
    rw [e2]
/-- What becomes of a byte. -/
def pA (b : Nat) : Nat := sA b 85
def pB (b : Nat) : Nat := sB (pA b) 51
def pc (b : Nat) : Nat := pB b / 16 + pB b % 16
theorem pA_lt : ∀ b, b < 256 → pA b < 256 := by decide +kernel
theorem pB_ok : ∀ b, b < 256 → pB b / 16 ≤ 4 ∧ pB b % 16 ≤ 4 := by decide +kernel
theorem pc_eq : ∀ b, b < 256 → pc b = b % 2 + b / 2 % 2 + b / 4 % 2 + b / 8 % 2 + b / 16 % 2 + b / 32 % 2 + b / 64 % 2 + b / 128 % 2 := by decide +kernel
theorem swar (x : Nat) (h : x < 256 ^ 8) : (sB (sA x (rep 85 8)) (rep 51 8) / 16 + sB (sA x (rep 85 8)) (rep 51 8)) &&& rep 15 8 = join pc 8 x := by
  have e1 : sA x (rep 85 8) = join pA 8 x := by
    have := joinA (fun b => b) (fun b h => h) 8 x
    rw [join_id 8 x h] at this
    exact this
  have e2 : sB (join pA 8 x) (rep 51 8) = join pB 8 x := joinB pA pA_lt 8 x
  rw [e1, e2]
  exact joinC pB pB_ok 8 x
theorem cnt_byte (n k : Nat) : Bt.cnt n (k + 8) = pc (n % 256) + Bt.cnt (n / 256) k := by
  rw [pc_eq _ (Nat.mod_lt _ (by omega))]
  have e : ∀ j : Nat, n / 2 ^ j / 2 = n / 2 ^ (j + 1) := fun j => by rw [Nat.div_div_eq_div_mul, Nat.pow_succ]
  rw [show k + 8 = (k + 7) + 1 from rfl, Bt.cnt_half, show k + 7 = (k + 6) + 1 from rfl, Bt.cnt_half, show k + 6 = (k + 5) + 1 from rfl, Bt.cnt_half, show k + 5 = (k + 4) + 1 from rfl, Bt.cnt_half,
    show k + 4 = (k + 3) + 1 from rfl, Bt.cnt_half, show k + 3 = (k + 2) + 1 from rfl, Bt.cnt_half, show k + 2 = (k + 1) + 1 from rfl, Bt.cnt_half, Bt.cnt_half]
  have e8 : n / 2 / 2 / 2 / 2 / 2 / 2 / 2 / 2 = n / 256 := by omega
  rw [e8]
  generalize Bt.cnt (n / 256) k = q
  omega
theorem pc_le {b : Nat} (h : b < 256) : pc b ≤ 8 := by rw [pc_eq b h]; omega
/-- The last three sums. -/
theorem sums (x : Nat) (h : x < 2 ^ 48) (c d e f : Nat) (hc : c = join pc 8 x) (hd : d = c + c / 256) (he : e = d + d / 65536) (hf : f = e + e / 4294967296) : f % 128 = Bt.cnt x 48 ∧ f < 2 ^ 63 := by
  have z : pc 0 = 0 := by decide +kernel
  have e6 : x / 256 / 256 / 256 / 256 / 256 / 256 = 0 := by omega
  rw [show 48 = 0 + 8 + 8 + 8 + 8 + 8 + 8 from rfl, cnt_byte, cnt_byte, cnt_byte, cnt_byte, cnt_byte, cnt_byte]
  simp only [join, e6, Bt.cnt, Nat.zero_mod, Nat.zero_div, z] at hc ⊢
  have l0 := pc_le (Nat.mod_lt x (by omega : 0 < 256))
  have l1 := pc_le (Nat.mod_lt (x / 256) (by omega : 0 < 256))
  have l2 := pc_le (Nat.mod_lt (x / 256 / 256) (by omega : 0 < 256))
  have l3 := pc_le (Nat.mod_lt (x / 256 / 256 / 256) (by omega : 0 < 256))
  have l4 := pc_le (Nat.mod_lt (x / 256 / 256 / 256 / 256) (by omega : 0 < 256))
  have l5 := pc_le (Nat.mod_lt (x / 256 / 256 / 256 / 256 / 256) (by omega : 0 < 256))
  generalize pc (x % 256) = c0 at *
  generalize pc (x / 256 % 256) = c1 at *
  generalize pc (x / 256 / 256 % 256) = c2 at *
  generalize pc (x / 256 / 256 / 256 % 256) = c3 at *
  generalize pc (x / 256 / 256 / 256 / 256 % 256) = c4 at *
  generalize pc (x / 256 / 256 / 256 / 256 / 256 % 256) = c5 at *
  clear e6 h z
  have q1 : c / 256 = c1 + 256 * c2 + 65536 * c3 + 16777216 * c4 + 4294967296 * c5 := by omega
  rw [q1] at hd
  clear q1
  have h0 : c = c0 + 256 * c1 + 65536 * c2 + 16777216 * c3 + 4294967296 * c4 + 1099511627776 * c5 := by omega
  rw [h0] at hd
  clear h0 hc
  have q2 : d / 65536 = (c2 + c3) + 256 * (c3 + c4) + 65536 * (c4 + c5) + 16777216 * c5 := by omega
  rw [q2] at he
  clear q2
  rw [hd] at he
  clear hd
  have q3 : e / 4294967296 = (c4 + c5) + 256 * c5 := by omega
  rw [q3, he] at hf
  clear q3 he
  omega

end Go.Proofs.Ytcbhpmgjmpbpmaa.Ob
namespace Go.Proofs.Ytcbhpmgjmpbpmaa.Oc
set_option maxRecDepth 8000
open Go Go.RowKit
open Num Bw Mo Ob
set_option linter.unusedSimpArgs false
set_option linter.unusedVariables false

theorem wraps_u64 (n : Int) (h₀ : 0 ≤ n) (h₁ : n < 2 ^ 64) : IntKind.u64.wrap n = n := by rw [IntKind.wrap_u64]; omega
theorem and_u64 (a b : Nat) (ha : a < 2 ^ 64) (hb : b < 2 ^ 64) : bits .and .u64 (a : Int) (b : Int) = ((a &&& b : Nat) : Int) := by
  have hp : a &&& b < 2 ^ 64 := Nat.lt_of_le_of_lt Nat.and_le_left ha
  simp only [bits, BitVec.ofInt_natCast, BitVec.toNat_and, BitVec.toNat_ofNat]
  rw [Nat.mod_eq_of_lt (show a < 2 ^ IntKind.u64.bits from Nat.lt_of_lt_of_le ha (by decide)), Nat.mod_eq_of_lt (show b < 2 ^ IntKind.u64.bits from Nat.lt_of_lt_of_le hb (by decide))]
  exact wraps_u64 _ (by omega) (by omega)

set_option maxHeartbeats 400000 in
theorem ones_any (x : Nat) (hx : x < 2 ^ 48) (w : World) : Calls Try.prog 148 #[.int .u64 x] w fun e w' => e = .returned (.int .i64 ((Bt.cnt x 48 : Nat) : Int)) ∧ w' = w := by
  have m5 : rep 85 8 = 6148914691236517205 := by decide +kernel
  have m3 : rep 51 8 = 3689348814741910323 := by decide +kernel
  have mf : rep 15 8 = 1085102592571150095 := by decide +kernel
  have hs := swar x (by omega)
  rw [m5, m3, mf] at hs
  unfold sB sA at hs
  have f1 : bits .and .u64 ((x : Int) / 2) 6148914691236517205 = ((x / 2 &&& 6148914691236517205 : Nat) : Int) := by
    have := and_u64 (x / 2) 6148914691236517205 (by omega) (by omega)
    rw [← this]; rfl
  have f2 : bits .and .u64 (x : Int) 6148914691236517205 = ((x &&& 6148914691236517205 : Nat) : Int) := and_u64 x 6148914691236517205 (by omega) (by omega)
  have l1 : x / 2 &&& 6148914691236517205 ≤ 6148914691236517205 := Nat.and_le_right
  have l2 : x &&& 6148914691236517205 ≤ 6148914691236517205 := Nat.and_le_right
  generalize x / 2 &&& 6148914691236517205 = p1 at *
  generalize x &&& 6148914691236517205 = p2 at *
  have f3 : IntKind.u64.wrap ((p1 : Int) + (p2 : Int)) = ((p1 + p2 : Nat) : Int) := by rw [wraps_u64 _ (by omega) (by omega)]; omega
  have l3 : p1 + p2 < 2 ^ 64 := by omega
  generalize p1 + p2 = a at *
  have f4 : bits .and .u64 ((a : Int) / 4) 3689348814741910323 = ((a / 4 &&& 3689348814741910323 : Nat) : Int) := by
    have := and_u64 (a / 4) 3689348814741910323 (by omega) (by omega)
    rw [← this]; rfl
  have f5 : bits .and .u64 (a : Int) 3689348814741910323 = ((a &&& 3689348814741910323 : Nat) : Int) := and_u64 a 3689348814741910323 (by omega) (by omega)
  have l4 : a / 4 &&& 3689348814741910323 ≤ 3689348814741910323 := Nat.and_le_right
  have l5 : a &&& 3689348814741910323 ≤ 3689348814741910323 := Nat.and_le_right
  generalize a / 4 &&& 3689348814741910323 = q1 at *
  generalize a &&& 3689348814741910323 = q2 at *
  have f6 : IntKind.u64.wrap ((q1 : Int) + (q2 : Int)) = ((q1 + q2 : Nat) : Int) := by rw [wraps_u64 _ (by omega) (by omega)]; omega
  have l6 : q1 + q2 ≤ 7378697629483820646 := by omega
  generalize q1 + q2 = b at *
  have f7 : IntKind.u64.wrap ((b : Int) / 16 + (b : Int)) = ((b / 16 + b : Nat) : Int) := by rw [wraps_u64 _ (by omega) (by omega)]; omega
  have l7 : b / 16 + b < 2 ^ 64 := by omega
  generalize b / 16 + b = g at *
  have f8 : bits .and .u64 (g : Int) 1085102592571150095 = ((g &&& 1085102592571150095 : Nat) : Int) := and_u64 g 1085102592571150095 (by omega) (by omega)
  have l8 : g &&& 1085102592571150095 ≤ 1085102592571150095 := Nat.and_le_right
  generalize g &&& 1085102592571150095 = c at *
  obtain ⟨d, hd⟩ : ∃ d, d = c + c / 256 := ⟨_, rfl⟩
  obtain ⟨e, he⟩ : ∃ e, e = d + d / 65536 := ⟨_, rfl⟩
  obtain ⟨f, hf⟩ : ∃ f, f = e + e / 4294967296 := ⟨_, rfl⟩
  obtain ⟨r, lf⟩ := sums x hx c d e f hs hd he hf
  have f9 : IntKind.u64.wrap ((c : Int) + (c : Int) / 256) = (d : Int) := by rw [wraps_u64 _ (by omega) (by omega)]; omega
  have f10 : IntKind.u64.wrap ((d : Int) + (d : Int) / 65536) = (e : Int) := by rw [wraps_u64 _ (by omega) (by omega)]; omega
  have f11 : IntKind.u64.wrap ((e : Int) + (e : Int) / 4294967296) = (f : Int) := by rw [wraps_u64 _ (by omega) (by omega)]; omega
  have f12 : IntKind.i64.wrap (f : Int) = (f : Int) := Get.wraps_i64 _ (by omega) (by omega)
  have f13 : bits .and .i64 (f : Int) 127 = ((Bt.cnt x 48 : Nat) : Int) := by
    have := Bu.and_i64 f 127 lf (by omega)
    rw [show ((127 : Nat) : Int) = 127 from rfl] at this
    rw [this, show (127 : Nat) = 2 ^ 7 - 1 from rfl, Nat.and_two_pow_sub_one_eq_mod, ← r]
  have hf63 : (f : Int) < 9223372036854775808 := by omega
  generalize Bt.cnt x 48 = n at *
  clear m5 m3 mf hs l1 l2 l3 l4 l5 l6 l7 l8 hd he hf r lf hx
  go_enter Try.func148, Try.ntmps148
  go_wp2
  go_ret
  exact ⟨rfl, rfl⟩
end Go.Proofs.Ytcbhpmgjmpbpmaa.Oc
namespace Go.Proofs.Ytcbhpmgjmpbpmaa.Ma
set_option maxRecDepth 8000
open Go Go.RowKit
open Num Pl Hr Hh Hf Hg Pa Pm Po Pq Bw Rg Lc
set_option linter.unusedSimpArgs false
set_option linter.unusedVariables false

/-- The bits asked for by the first k places. -/
def tot (m : Nat → Int) : Nat → Nat
  | 0 => 0
  | k + 1 => tot m k + Bt.cnt (m k).toNat 48
theorem tot_le (m : Nat → Int) : ∀ k, tot m k ≤ 48 * k
  | 0 => by simp [tot]
  | k + 1 => by have := tot_le m k; have := Bt.cnt_le (m k).toNat 48; simp only [tot]; omega

set_option maxHeartbeats 1000000 in
theorem ask_no (a1 a2 : Option Addr) (n1 n2 c1 c2 : Nat) (x y : Nat → Int) (w : World)
    (h : ∀ w1, Below w.heap.size w w1 → Calls Try.prog 110 #[.agg #[.slice a1 n1 c1, .slice a2 n2 c2]] w1 fun e w' => e = .returned (.tuple #[.agg (enc x y), .bool false]) ∧ Below w1.heap.size w1 w') :
    Calls Try.prog 62 #[.agg #[.slice a1 n1 c1, .slice a2 n2 c2]] w (Nu (-1) w) := by
  have B := below_alloc1 w (.cells #[.slice a1 n1 c1, .slice a2 n2 c2] 25)
  have HP : Hid (Calls Try.prog 110 #[.agg #[.slice a1 n1 c1, .slice a2 n2 c2]] (w.alloc (.cells #[.slice a1 n1 c1, .slice a2 n2 c2] 25)) fun e w' => e = .returned (.tuple #[.agg (enc x y), .bool false]) ∧ Below (w.alloc (.cells #[.slice a1 n1 c1, .slice a2 n2 c2] 25)).heap.size (w.alloc (.cells #[.slice a1 n1 c1, .slice a2 n2 c2] 25)) w') := h _ B
  clear h
  unfold Nu
  go_enter Try.func62, Try.ntmps62
  go_wp2_with (first
    | (go_at_call 110; refine HP.out.mono ?_; rintro e wa ⟨rfl, hb⟩; replace B := Rw.next B hb; clear hb)
    | (refine store66 rfl _ _ rfl rfl rfl (has_zero rfl) (fun w1 hX hS => ?_)))
  go_ret
  exact ⟨rfl, hS.below (Rw.next B (below_alloc1 _ _)) B.size⟩

set_option maxHeartbeats 2000000 in
theorem ask_yes (a1 a2 : Option Addr) (n1 n2 c1 c2 : Nat) (x y : Nat → Int) (w : World) (hy : ∀ k, k < 8 → 0 ≤ y k ∧ y k < 281474976710656)
    (h : ∀ w1, Below w.heap.size w w1 → Calls Try.prog 110 #[.agg #[.slice a1 n1 c1, .slice a2 n2 c2]] w1 fun e w' => e = .returned (.tuple #[.agg (enc x y), .bool true]) ∧ Below w1.heap.size w1 w') :
    Calls Try.prog 62 #[.agg #[.slice a1 n1 c1, .slice a2 n2 c2]] w (Nu (tot y 8 : Nat) w) := by
  have B := below_alloc1 w (.cells #[.slice a1 n1 c1, .slice a2 n2 c2] 25)
  have HP : Hid (Calls Try.prog 110 #[.agg #[.slice a1 n1 c1, .slice a2 n2 c2]] (w.alloc (.cells #[.slice a1 n1 c1, .slice a2 n2 c2] 25)) fun e w' => e = .returned (.tuple #[.agg (enc x y), .bool true]) ∧ Below (w.alloc (.cells #[.slice a1 n1 c1, .slice a2 n2 c2] 25)).heap.size (w.alloc (.cells #[.slice a1 n1 c1, .slice a2 n2 c2] 25)) w') := h _ B
  have HY : Hid (∀ k, k < 8 → 0 ≤ y k ∧ y k < 281474976710656) := hy
  clear h hy
  unfold Nu
  go_enter Try.func62, Try.ntmps62
  go_wp2_with (first
    | (go_at_call 110; refine HP.out.mono ?_; rintro e wa ⟨rfl, hb⟩; replace B := Rw.next B hb; clear hb)
    | (refine store66 rfl _ _ rfl rfl rfl (has_zero rfl) (fun w1 hX hS => ?_); replace B := hS.below (Rw.next B (below_alloc1 _ _)) B.size; clear hS)
    | (refine load66 rfl _ rfl rfl hX ?_))
  clear HP
  go_loopw [5, 16] (fun t i wr => ∃ k : Nat, k ≤ 8 ∧ i = .int .i64 k ∧ t = .int .i64 ((tot y k : Nat) : Int) ∧ Below w.heap.size w wr) (fun _ i _ => 8 - (intOf i).toNat)
  case atStart => exact ⟨0, Nat.zero_le _, rfl, rfl, B⟩
  case round =>
    obtain ⟨k, hk, rfl, rfl, hbel⟩ := hrel
    clear B hX
    by_cases hlt : k < 8
    · have hkz : (k : Int) < 8 := by omega
      have hix := fun w => index_any (v := x) (m := y) hlt w
      have hyk := HY.out k hlt
      have ht := tot_le y k
      have et : tot y (k + 1) = tot y k + Bt.cnt (y k).toNat 48 := rfl
      have hcl := Bt.cnt_le (y k).toNat 48
      have HO : Hid (∀ w, Calls Try.prog 148 #[.int .u64 (y k)] w fun e w' => e = .returned (.int .i64 ((Bt.cnt (y k).toNat 48 : Nat) : Int)) ∧ w' = w) := (fun w => by
        have := Oc.ones_any (y k).toNat (by omega) w
        rw [Int.toNat_of_nonneg hyk.1] at this
        exact this : ∀ w, Calls Try.prog 148 #[.int .u64 (y k)] w fun e w' => e = .returned (.int .i64 ((Bt.cnt (y k).toNat 48 : Nat) : Int)) ∧ w' = w)
      have hcv : IntKind.u64.wrap (y k) = y k := Oc.wraps_u64 _ hyk.1 (by omega)
      generalize Bt.cnt (y k).toNat 48 = c at *
      generalize x k = xk at *
      generalize y k = yk at *
      have ET : Hid (tot y (k + 1) = tot y k + c) := et
      clear et
      generalize tot y k = t at *
      have h1 : (t : Int) ≤ 384 := by omega
      have h2 : (c : Int) ≤ 48 := by omega
      have sz := hbel.size
      go_wp2_with (go_at_call 148; refine (HO.out _).mono ?_; rintro e wq ⟨rfl, hwq⟩; replace hwq := hwq.symm; subst hwq)
      go_roundw
      case rel => exact ⟨k + 1, by omega, by go_num, by rw [ET.out]; go_num, Rw.next hbel (below_alloc1 _ _)⟩
      case measure => simp [intOf]; omega
    · have he : k = 8 := by omega
      subst he
      go_wp2
      go_ret
      exact ⟨rfl, hbel⟩

/-- The same, each place by its own bits. -/
def totS (m : Nat → Int) : Nat → Nat
  | 0 => 0
  | k + 1 => totS m k + Bt.cnt (m k).toNat (fbN k)
theorem totS_le (m : Nat → Int) : ∀ k, totS m k ≤ 48 * k
  | 0 => by simp [totS]
  | k + 1 => by have := totS_le m k; have := Bt.cnt_le (m k).toNat (fbN k); have := fbN_le k; simp only [totS]; omega
theorem cnt_big {n b : Nat} (h : n < 2 ^ b) : ∀ d, Bt.cnt n (b + d) = Bt.cnt n b
  | 0 => rfl
  | d + 1 => by
    have hl : n < 2 ^ (b + d) := Nat.lt_of_lt_of_le h (Nat.pow_le_pow_right (by decide) (by omega))
    rw [← Nat.add_assoc, Bt.cnt, cnt_big h d, Nat.div_eq_of_lt hl]
    rfl
theorem tots {m : Nat → Int} (h : ∀ k : Nat, k < 8 → fits k (m k) = true) : ∀ k, k ≤ 8 → totS m k = tot m k
  | 0, _ => rfl
  | k + 1, hk => by
    have hf := fits_pow (h k (by omega))
    have h48 := fbN_le k
    obtain ⟨d, hd⟩ : ∃ d, 48 = fbN k + d := ⟨48 - fbN k, by omega⟩
    simp only [totS, tot]
    rw [tots h k (by omega), hd, cnt_big hf]

end Go.Proofs.Ytcbhpmgjmpbpmaa.Ma
namespace Go.Proofs.Ytcbhpmgjmpbpmaa.Lf
set_option maxRecDepth 8000
open Go Go.RowKit
open Num Pl Hr Hh Hf Hg Pa Pm Po Pe Rg Lb Lc Bw Ma
set_option linter.unusedVariables false

theorem pairsT {V M : List Int} {a a' : Option Addr} {b o b' o' : Nat} (c c' : Nat) {w : World} (h1 : Rd w a b o V) (h2 : Rd w a' b' o' M) (wV : Wide V) {P : Bool} (hP : matchB V M = P) :
    ∀ w1, Below w.heap.size w w1 → Calls Try.prog 110 #[.agg #[.slice a V.length c, .slice a' M.length c']] w1 fun e w' => e = .returned (.tuple #[.agg (enc (pv V M) (pm V M)), .bool P]) ∧ Below w1.heap.size w1 w' := by
  intro w1 hb
  have := pairs_any a a' b o c b' o' c' V M w1 (h1.below hb) (h2.below hb) wV
  rw [hP] at this
  exact this

end Go.Proofs.Ytcbhpmgjmpbpmaa.Lf
namespace Go.Proofs.Ytcbhpmgjmpbpmaa.Fc
open Bt
set_option maxRecDepth 8000

/-- What a covered one is hit by hits the covering one. -/
theorem cover_hits {aV aM bV bM H : Nat} (h : aM &&& bM = aM ∧ bV &&& aM = aV) (hb : H &&& bM = bV) : H &&& aM = aV := by
  rw [← h.2, ← hb, Nat.and_assoc, Nat.and_comm bM aM, h.1]
/-- Two that don't meet are hit together by nothing. -/
theorem no_meet {aV aM bV bM H : Nat} (h : aV &&& bM ≠ bV &&& aM) : ¬ (H &&& aM = aV ∧ H &&& bM = bV) := by
  rintro ⟨e1, e2⟩
  apply h
  rw [← e1, ← e2, Nat.and_assoc, Nat.and_assoc, Nat.and_comm aM bM]
/-- Each of two that meet covers their meeting. -/
theorem meet_covers {aV aM bV bM : Nat} (ha : aV ||| aM = aM) (hb : bV ||| bM = bM) (h : aV &&& bM = bV &&& aM) : aM &&& (aM ||| bM) = aM ∧ (aV ||| bV) &&& aM = aV := by
  have wa := (Bt.within_iff aV aM).1 ha
  have wb := (Bt.within_iff bV bM).1 hb
  have key : ∀ i, (aV.testBit i && bM.testBit i) = (bV.testBit i && aM.testBit i) := fun i => by
    have := congrArg (fun n => n.testBit i) h
    simpa [Nat.testBit_and] using this
  constructor
  all_goals
    apply Nat.eq_of_testBit_eq
    intro i
    have k1 := key i
    have a1 := wa i
    have b1 := wb i
    simp only [Nat.testBit_and, Nat.testBit_or]
    revert k1 a1 b1
    cases aM.testBit i <;> cases bM.testBit i <;> cases aV.testBit i <;> cases bV.testBit i <;> simp
/-- The meeting's numbers lie within its bits. -/
theorem meet_within {aV aM bV bM : Nat} (ha : aV ||| aM = aM) (hb : bV ||| bM = bM) : (aV ||| bV) ||| (aM ||| bM) = aM ||| bM := by
  have wa := (Bt.within_iff aV aM).1 ha
  have wb := (Bt.within_iff bV bM).1 hb
  apply Nat.eq_of_testBit_eq
  intro i
  have a1 := wa i
  have b1 := wb i
  simp only [Nat.testBit_or]
  revert a1 b1
  cases aM.testBit i <;> cases bM.testBit i <;> cases aV.testBit i <;> cases bV.testBit i <;> simp
/-- More bits, a greater count. -/
theorem cnt_mono {n m : Nat} (h : n ||| m = m) : ∀ k, cnt n k ≤ cnt m k
  | 0 => Nat.le_refl _
  | k + 1 => by
    have q := cnt_mono h k
    have e := (Bt.within_iff n m).1 h k
    have en : n / 2 ^ k % 2 = (n.testBit k).toNat := by rw [Nat.toNat_testBit]
    have em : m / 2 ^ k % 2 = (m.testBit k).toNat := by rw [Nat.toNat_testBit]
    simp only [cnt]
    rw [en, em]
    revert e
    cases n.testBit k <;> cases m.testBit k <;> simp <;> omega
theorem or_left_within (a b : Nat) : a ||| (a ||| b) = a ||| b := by rw [← Nat.or_assoc, Nat.or_self]

end Go.Proofs.Ytcbhpmgjmpbpmaa.Fc
namespace Go.Proofs.Ytcbhpmgjmpbpmaa.Uc
set_option maxRecDepth 8000
set_option linter.unusedSimpArgs false
set_option linter.unusedVariables false
open Go Go.RowKit
open Num Pl Hr Hh Hf Hg Pa Pm Po Pe Rg Lb Lc Ld Le Bw Ma

/-- What Covers answers. -/
def covB (V M V' M' : List Int) : Bool := (matchB V M && matchB V' M') && sameB (fun k => bits .and .i64 (pv V' M' k) (pm V M k)) (fun k => bits .and .i64 (pm V' M' k) (pm V M k)) (pv V M) (pm V M)
theorem hit_cov (V M H : List Int) : hitB V M H = covB V M (ofV H) (ofM H) := rfl
theorem coversI (V M V' M' : List Int) (wV : Wide V) (wV' : Wide V') : CMM 57 V M V' M' (Bo (covB V M V' M')) :=
  fun a a' b o c b' o' c' p p' q r s q' r' s' w h1 h2 h3 h4 => Mi.covers_l a a' p p' _ _ _ _ c c' s s' _ _ _ _ _ w (Mi.two_any c c' s s' h1 h2 wV h3 h4 wV')
theorem coversS (V M V' M' : List Int) (wV : Wide V) (wV' : Wide V') : CMM 58 V M V' M' (Bo (covB V M V' M')) := coversS_any wV wV'
theorem meets (V M V' M' : List Int) (wV : Wide V) (wV' : Wide V') : CMM 61 V M V' M' (Bo (meetB V M V' M')) :=
  fun a a' b o c b' o' c' p p' q r s q' r' s' w h1 h2 h3 h4 => meetsS_l a a' _ c _ c' p p' _ s _ s' _ _ _ w fun w1 hb => meetS_any V M V' M' wV wV' a a' b o c b' o' c' p p' q r s q' r' s' w1 (h1.below hb) (h2.below hb) (h3.below hb) (h4.below hb)
/-- What Asked answers. -/
def askI (V M : List Int) : Int := if matchB V M = true then (tot (nth M) 8 : Nat) else -1
theorem asked (V M : List Int) (wV : Wide V) : CM 62 V M (Nu (askI V M)) := by
  intro a a' b o c b' o' c' w h1 h2
  unfold askI
  cases h : matchB V M with
  | false =>
    rw [if_neg (by simp)]
    exact ask_no a a' _ _ c c' (pv V M) (pm V M) w (Lf.pairsT c c' h1 h2 wV h)
  | true =>
    rw [if_pos rfl]
    have q := ask_yes a a' V.length M.length c c' (pv V M) (pm V M) w (by rw [pm_yes h]; exact fun k hk => (bounds h).2 k hk) (Lf.pairsT c c' h1 h2 wV h)
    rw [pm_yes h] at q
    exact q

theorem cov_match {V M V' M' : List Int} (h : covB V M V' M' = true) : matchB V M = true ∧ matchB V' M' = true := by
  unfold covB at h
  simp only [Bool.and_eq_true] at h
  exact h.1
theorem meet_match {V M V' M' : List Int} (h : meetB V M V' M' = true) : matchB V M = true ∧ matchB V' M' = true := by
  unfold meetB at h
  simp only [Bool.and_eq_true] at h
  exact h.1
/-- Numbers of a row as naturals. -/
def na (l : List Int) (k : Nat) : Nat := (l.getD k 0).toNat
theorem cov_nat {V M V' M' : List Int} (h : matchB V M = true) (h' : matchB V' M' = true) : covB V M V' M' = true ↔ ∀ k, k < 8 → na V' k &&& na M k = na V k ∧ na M' k &&& na M k = na M k := by
  unfold covB
  rw [h, h', pv_yes h, pm_yes h, pv_yes h', pm_yes h', Bool.and_true, Bool.true_and, sameB_iff]
  refine forall_congr' fun k => forall_congr' fun hk => ?_
  obtain ⟨d1, d2⟩ := bounds h
  obtain ⟨d3, d4⟩ := bounds h'
  unfold nth na
  rw [and_nat (d3 k hk).1 (d3 k hk).2 (d2 k hk).1 (d2 k hk).2, and_nat (d4 k hk).1 (d4 k hk).2 (d2 k hk).1 (d2 k hk).2, cast_eq (d1 k hk).1, cast_eq (d2 k hk).1]
theorem meet_nat {V M V' M' : List Int} (h : matchB V M = true) (h' : matchB V' M' = true) : meetB V M V' M' = true ↔ ∀ k, k < 8 → na V k &&& na M' k = na V' k &&& na M k := by
  unfold meetB bothB
  rw [h, h', pv_yes h, pm_yes h, pv_yes h', pm_yes h', Bool.and_true, Bool.true_and, sameB_iff]
  refine forall_congr' fun k => forall_congr' fun hk => ?_
  obtain ⟨d1, d2⟩ := bounds h
  obtain ⟨d3, d4⟩ := bounds h'
  unfold nth na
  rw [and_nat (d1 k hk).1 (d1 k hk).2 (d4 k hk).1 (d4 k hk).2, and_nat (d2 k hk).1 (d2 k hk).2 (d4 k hk).1 (d4 k hk).2, and_nat (d3 k hk).1 (d3 k hk).2 (d2 k hk).1 (d2 k hk).2, and_nat (d4 k hk).1 (d4 k hk).2 (d2 k hk).1 (d2 k hk).2]
  rw [Nat.and_comm (M'.getD k 0).toNat (M.getD k 0).toNat]
  constructor
  · intro q; omega
  · intro q; exact ⟨by omega, rfl⟩
/-- (1) What covers what covers covers. -/
theorem cov_trans {V M V' M' X Y : List Int} (h1 : covB V M V' M' = true) (h2 : covB V' M' X Y = true) : covB V M X Y = true := by
  obtain ⟨m1, m2⟩ := cov_match h1
  obtain ⟨_, m3⟩ := cov_match h2
  rw [cov_nat m1 m3]
  rw [cov_nat m1 m2] at h1
  rw [cov_nat m2 m3] at h2
  intro k hk
  obtain ⟨a1, a2⟩ := h1 k hk
  obtain ⟨b1, b2⟩ := h2 k hk
  have e : na M k = na M' k &&& na M k := a2.symm
  refine ⟨?_, ?_⟩
  · rw [e, ← Nat.and_assoc, b1, a1]
  · conv => lhs; rw [e, ← Nat.and_assoc, b2]
    exact a2
/-- (2) Two that cover one meet. -/
theorem cov_meet {V M V' M' X Y : List Int} (h1 : covB V M X Y = true) (h2 : covB V' M' X Y = true) : meetB V M V' M' = true := by
  obtain ⟨m1, m3⟩ := cov_match h1
  obtain ⟨m2, _⟩ := cov_match h2
  rw [meet_nat m1 m2]
  rw [cov_nat m1 m3] at h1
  rw [cov_nat m2 m3] at h2
  intro k hk
  rw [← (h1 k hk).1, ← (h2 k hk).1, Nat.and_assoc, Nat.and_assoc, Nat.and_comm (na M k) (na M' k)]

theorem fits_or {k : Int} {a b : Nat} (ha : fits k (a : Int) = true) (hb : fits k (b : Int) = true) : fits k ((a ||| b : Nat) : Int) = true := by
  unfold fits numOkB at *
  simp only [decide_eq_true_eq] at *
  obtain ⟨h1, h2, _, h4⟩ := ha
  obtain ⟨_, _, _, g4⟩ := hb
  refine ⟨h1, h2, by omega, ?_⟩
  have e : pw (fb k / 8).toNat = 2 ^ (8 * (fb k / 8).toNat) := by unfold pw; rw [show (256 : Nat) = 2 ^ 8 from rfl, ← Nat.pow_mul]
  rw [e] at h4 g4 ⊢
  have q := Nat.or_lt_two_pow (x := a) (y := b) (n := 8 * (fb k / 8).toNat) (by exact_mod_cast h4) (by exact_mod_cast g4)
  exact_mod_cast q
theorem uptoP_of {V M : List Int} (h : ∀ k : Nat, k < 8 → pairB k (V.getD k 0) (M.getD k 0) = true) : ∀ j, j ≤ 8 → uptoP V M j = true
  | 0, _ => rfl
  | j + 1, hj => by
    simp only [uptoP]
    rw [uptoP_of h j (by omega), h j (by omega)]
    rfl
theorem at_meet {V M V' M' : List Int} (h : meetB V M V' M' = true) {k : Nat} (hk : k < 8) : (meetV V M V' M').getD k 0 = ((na V k ||| na V' k : Nat) : Int) ∧ (meetM V M V' M').getD k 0 = ((na M k ||| na M' k : Nat) : Int) := by
  obtain ⟨m1, m2⟩ := meet_match h
  obtain ⟨d1, d2⟩ := bounds m1
  obtain ⟨d3, d4⟩ := bounds m2
  unfold meetV meetM
  rw [if_pos h, if_pos h, lst_at _ hk, lst_at _ hk, pv_yes m1, pm_yes m1, pv_yes m2, pm_yes m2]
  unfold nth na
  have a1 := d1 k hk
  have a2 := d2 k hk
  have a3 := d3 k hk
  have a4 := d4 k hk
  exact ⟨Bu.or_int a1.1 (by omega) a3.1 (by omega), Bu.or_int a2.1 (by omega) a4.1 (by omega)⟩
theorem na_meet {V M V' M' : List Int} (h : meetB V M V' M' = true) {k : Nat} (hk : k < 8) : na (meetV V M V' M') k = na V k ||| na V' k ∧ na (meetM V M V' M') k = na M k ||| na M' k := by
  obtain ⟨e1, e2⟩ := at_meet h hk
  unfold na at *
  rw [e1, e2]
  exact ⟨rfl, rfl⟩
theorem within {V M : List Int} (h : matchB V M = true) {k : Nat} (hk : k < 8) : na V k ||| na M k = na M k := (at_ok h hk).2.2.1
theorem match_meet {V M V' M' : List Int} (h : meetB V M V' M' = true) : matchB (meetV V M V' M') (meetM V M V' M') = true := by
  obtain ⟨m1, m2⟩ := meet_match h
  have l1 : (meetV V M V' M').length = 8 := by unfold meetV; rw [if_pos h, lst_len]
  have l2 : (meetM V M V' M').length = 8 := by unfold meetM; rw [if_pos h, lst_len]
  unfold matchB
  rw [l1, l2, uptoP_of (fun k hk => ?_) 8 (Nat.le_refl _)]
  · rfl
  obtain ⟨e1, e2⟩ := at_meet h hk
  have f1 := (at_ok m1 hk).1
  have f2 := (at_ok m2 hk).1
  have b1 := (bounds m1).2 k hk
  have b2 := (bounds m2).2 k hk
  have c1 : ((na M k : Nat) : Int) = M.getD k 0 := by unfold na; omega
  have c2 : ((na M' k : Nat) : Int) = M'.getD k 0 := by unfold na; omega
  unfold pairB
  rw [e1, e2, fits_or (by rw [c1]; exact f1) (by rw [c2]; exact f2)]
  simp only [Bool.true_and, decide_eq_true_eq, Int.toNat_natCast]
  exact ⟨by omega, Fc.meet_within (within m1 hk) (within m2 hk)⟩
/-- (3) The meeting is covered by each. -/
theorem meet_cov {V M V' M' : List Int} (h : meetB V M V' M' = true) : covB V M (meetV V M V' M') (meetM V M V' M') = true ∧ covB V' M' (meetV V M V' M') (meetM V M V' M') = true := by
  obtain ⟨m1, m2⟩ := meet_match h
  have m3 := match_meet h
  have hn := (meet_nat m1 m2).1 h
  rw [cov_nat m1 m3, cov_nat m2 m3]
  constructor
  · intro k hk
    obtain ⟨e1, e2⟩ := na_meet h hk
    obtain ⟨q1, q2⟩ := Fc.meet_covers (within m1 hk) (within m2 hk) (hn k hk)
    rw [e1, e2]
    exact ⟨q2, by rw [Nat.and_comm]; exact q1⟩
  · intro k hk
    obtain ⟨e1, e2⟩ := na_meet h hk
    obtain ⟨q1, q2⟩ := Fc.meet_covers (within m2 hk) (within m1 hk) (hn k hk).symm
    rw [e1, e2, Nat.or_comm (na V k), Nat.or_comm (na M k)]
    exact ⟨q2, by rw [Nat.and_comm]; exact q1⟩
/-- (4) The meeting covers what both cover. -/
theorem meet_hit {V M V' M' X Y : List Int} (h : meetB V M V' M' = true) : covB (meetV V M V' M') (meetM V M V' M') X Y = (covB V M X Y && covB V' M' X Y) := by
  obtain ⟨m1, m2⟩ := meet_match h
  have m3 := match_meet h
  have hn := (meet_nat m1 m2).1 h
  obtain ⟨c1, c2⟩ := meet_cov h
  rw [Bool.eq_iff_iff, Bool.and_eq_true]
  constructor
  · intro q
    exact ⟨cov_trans c1 q, cov_trans c2 q⟩
  · rintro ⟨q1, q2⟩
    obtain ⟨_, m4⟩ := cov_match q1
    rw [cov_nat m3 m4]
    rw [cov_nat m1 m4] at q1
    rw [cov_nat m2 m4] at q2
    intro k hk
    obtain ⟨e1, e2⟩ := na_meet h hk
    rw [e1, e2, Nat.and_or_distrib_left, Nat.and_or_distrib_left, (q1 k hk).1, (q1 k hk).2, (q2 k hk).1, (q2 k hk).2]
    exact ⟨rfl, rfl⟩
theorem tot_mono {x y : Nat → Int} : ∀ n, (∀ k, k < n → (x k).toNat ||| (y k).toNat = (y k).toNat) → tot x n ≤ tot y n
  | 0, _ => Nat.le_refl _
  | n + 1, h => by
    simp only [tot]
    have a := tot_mono n fun k hk => h k (by omega)
    have b := Fc.cnt_mono (h n (by omega)) 48
    omega
/-- (5) The meeting asks no less. -/
theorem ask_le {V M V' M' : List Int} (h : meetB V M V' M' = true) : askI V M ≤ askI (meetV V M V' M') (meetM V M V' M') := by
  obtain ⟨m1, m2⟩ := meet_match h
  have m3 := match_meet h
  unfold askI
  rw [if_pos m1, if_pos m3]
  have q := tot_mono (x := nth M) (y := nth (meetM V M V' M')) 8 fun k hk => by
    have e2 := (na_meet h hk).2
    unfold na at e2
    unfold nth
    rw [e2]
    exact Fc.or_left_within _ _
  omega
/-- What FnCovers asks. -/
theorem ask (V M V' M' H : List Int) : (covB V M V' M' = true → hitB V' M' H = true → hitB V M H = true) ∧
    (meetB V M V' M' = false → (hitB V M H && hitB V' M' H) = false) ∧
    (meetB V M V' M' = true → hitB (meetV V M V' M') (meetM V M V' M') H = (hitB V M H && hitB V' M' H) ∧ covB V M (meetV V M V' M') (meetM V M V' M') = true ∧ covB V' M' (meetV V M V' M') (meetM V M V' M') = true ∧ askI V M ≤ askI (meetV V M V' M') (meetM V M V' M')) := by
  simp only [hit_cov]
  refine ⟨fun a b => cov_trans a b, fun a => ?_, fun a => ⟨meet_hit a, (meet_cov a).1, (meet_cov a).2, ask_le a⟩⟩
  cases q1 : covB V M (ofV H) (ofM H) with
  | false => rfl
  | true =>
    cases q2 : covB V' M' (ofV H) (ofM H) with
    | false => rfl
    | true => rw [cov_meet q1 q2] at a; cases a

end Go.Proofs.Ytcbhpmgjmpbpmaa.Uc
