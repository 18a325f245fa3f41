/-
  Contracts laid together (Wl, Wl1, Wl2, Wl3, Wl4, Wl5, Wl6, Wo, Wp).
-/
import Derived.Test.YtcbhpmgjmpbpmaaPka
import Derived.Deep.AppendLies
import Derived.Deep.CutRange
import Derived.Deep.RegionWith
namespace Go.Proofs.Ytcbhpmgjmpbpmaa.Wj
open Go Go.RowKit
set_option maxRecDepth 8000
set_option linter.unusedSimpArgs false
set_option linter.unusedVariables false
open Num Pl Rw Mk Un Put App Ea Pr Wa

theorem code_zero {l : List Int} (h : code l = 0) : (12 ≤ l.length ∧ l.length ≤ 300) ∧ l.getD 0 0 = 1 ∧ Gq.told l = l.length ∧ 1 ≤ l.getD 1 0 ∧ l.getD 1 0 ≤ 6 := by
  unfold code at h
  split at h
  · omega
  split at h
  · omega
  split at h
  · omega
  split at h
  · omega
  omega
theorem written_ok {x : Ga.Said} {l : List Int} (h : Ja.writtenL x = l) (h12 : 12 ≤ l.length) : Ga.msgB x = true := by
  cases e : Ga.msgB x with
  | true => rfl
  | false =>
    unfold Ja.writtenL at h
    rw [e, if_neg (by simp)] at h
    subst h
    simp at h12
def nilF (kd se xi ep : Int) (gm : Nat) : Ga.Msg := ⟨kd, se, xi, ⟨ep, 0, [], [], [], 0, none, gm + 1, 0, 0, none, gm + 2, 0, 0, none, gm + 3, 0, 0⟩, false, [], none, gm + 4, 0, 0⟩
theorem nilF_ok (kd se xi ep : Int) (gm : Nat) (w : World) : (nilF kd se xi ep gm).Ok w ∧ Jm.WtM w (nilF kd se xi ep gm) ∧ Jm.Ap4 (nilF kd se xi ep gm) ∧ ∀ y, Jm.Use4 (nilF kd se xi ep gm) y → gm < y := by
  refine ⟨?_, ?_, ?_, ?_⟩
  · exact ⟨⟨⟨fun h => by simp [nilF] at h, fun i h => by simp [nilF] at h, by simp [nilF]⟩, ⟨fun h => by simp [nilF] at h, fun i h => by simp [nilF] at h, by simp [nilF]⟩, ⟨fun h => by simp [nilF] at h, fun i h => by simp [nilF] at h, by simp [nilF]⟩, wide0, wide0⟩, rfl, ⟨fun h => by simp [nilF] at h, fun i h => by simp [nilF] at h, by simp [nilF]⟩, wide0⟩
  · exact ⟨⟨fun h => by simp [nilF] at h, fun i h => by simp [nilF] at h, fun i h => by simp [nilF] at h, by simp [nilF]⟩, ⟨fun h => by simp [nilF] at h, fun i h => by simp [nilF] at h, fun i h => by simp [nilF] at h, by simp [nilF]⟩, ⟨fun h => by simp [nilF] at h, fun i h => by simp [nilF] at h, fun i h => by simp [nilF] at h, by simp [nilF]⟩, ⟨fun h => by simp [nilF] at h, fun i h => by simp [nilF] at h, fun i h => by simp [nilF] at h, by simp [nilF]⟩⟩
  · exact ⟨by simp only [nilF]; omega, by simp only [nilF]; omega, by simp only [nilF]; omega, by simp only [nilF]; omega, by simp only [nilF]; omega, by simp only [nilF]; omega⟩
  · intro y hy
    rcases hy with rfl | rfl | rfl | rfl <;> (simp only [nilF]; omega)
/-- What is handed back of what is read. -/
def ansL (x : Ga.Said) (l : List Int) : Ga.Said × Int := if Ja.writtenL x = l then (x, 0) else (said0, 5)

end Go.Proofs.Ytcbhpmgjmpbpmaa.Wj
namespace Go.Proofs.Ytcbhpmgjmpbpmaa.Wj
open Go Go.RowKit
set_option maxRecDepth 8000
set_option linter.unusedSimpArgs false
set_option linter.unusedVariables false
open Num Pl Rw Mk Un Put App Ea Pr Wa

set_option maxHeartbeats 4000000 in
theorem sread1 (a : Option Addr) (b off cap : Nat) (l : List Int) (w : World) (h : Rd w a b off l) (hc : code l = 0) (hk : l.getD 1 0 = 1) (x X : Ga.Said) (C : Int) (HX : Hid ((1, rdn l 4 4, rdn l 8 4, (0, 0, [], [], [], 0), false, []) = x))
    (hy : Ja.writtenL x = l → X = x ∧ C = 0) (hn : ¬ Ja.writtenL x = l → X = said0 ∧ C = 5) :
    Calls Try.prog 29 #[.slice a l.length cap] w (ResF w X C) := by
  have HY : Hid (Ja.writtenL x = l → X = x ∧ C = 0) := hy
  have HN : Hid (¬ Ja.writtenL x = l → X = said0 ∧ C = 5) := hn
  clear hy hn
  obtain ⟨W1, hW1⟩ : ∃ W1, W1 = (w.alloc (.cells #[.int .i64 0, .int .i64 0, .int .i64 0, .int .i64 0, .int .i64 0, .slice none 0 0, .slice none 0 0, .slice none 0 0, .bool false, .slice none 0 0] 30)).alloc (.cells #[.int .i64 0, .int .i64 0, .int .i64 0, .int .i64 0, .int .i64 0, .slice none 0 0, .slice none 0 0, .slice none 0 0, .bool false, .slice none 0 0] 30) := ⟨_, rfl⟩
  have B1 : Below w.heap.size w W1 := by subst hW1; exact Rw.next (below_alloc1 _ _) (below_alloc1 _ _)
  have kR : W1.heap[w.heap.size]? = some (.cells #[.int .i64 0, .int .i64 0, .int .i64 0, .int .i64 0, .int .i64 0, .slice none 0 0, .slice none 0 0, .slice none 0 0, .bool false, .slice none 0 0] 30 (0, 0)) := by subst hW1; rw [at_old (by simp), at_new rfl]
  have kN : W1.heap[w.heap.size + 1]? = some (.cells #[.int .i64 0, .int .i64 0, .int .i64 0, .int .i64 0, .int .i64 0, .slice none 0 0, .slice none 0 0, .slice none 0 0, .bool false, .slice none 0 0] 30 (0, 0)) := by subst hW1; exact at_new (by simp)
  have h1 := h.below B1
  have hlt := blk_lt kN
  obtain ⟨c1, c2, c3, c4⟩ := code_zero hc
  have z1 : ¬ (l.length : Int) < 12 := by omega
  have z2 : ¬ (300 : Int) < (l.length : Int) := by omega
  obtain rfl := h1.head (by omega)
  have g0 := h1.cell 0 (by omega)
  simp only [Nat.add_zero, c2] at g0
  have g1 := h1.cell 1 (by omega)
  rw [hk] at g1
  have hG := fun W hh => sget (some ⟨b, off, none⟩) b off cap l 2 2 W hh (by omega) (by omega)
  have hG4 := fun W hh => sget (some ⟨b, off, none⟩) b off cap l 4 4 W hh (by omega) (by omega)
  have hG8 := fun W hh => sget (some ⟨b, off, none⟩) b off cap l 8 4 W hh (by omega) (by omega)
  rw [told_rdn h.byt (by omega), c3] at hG
  have hx : (0 : Int) < (l.length : Int) := by omega
  have hx1 : (1 : Int) < (l.length : Int) := by omega
  have hl12 : 12 ≤ l.length := by omega
  have HRD : Hid (Rd w (some ⟨b, off, none⟩) b off l) := h
  clear c1 c2 c3 c4 hc h
  generalize rdn l 4 4 = se at *
  generalize rdn l 8 4 = xi at *
  have t4 : True := trivial
  have t8 : True := trivial
  have hl0 : w.heap.size < W1.heap.size := by omega
  have hlb : b < W1.heap.size := World.block_lt_of_cell? _ _ g1
  go_enter Try.func29, Try.ntmps29
  go_upto_region 4 with fail
  rw [← hW1]
  clear hW1
  go_upto_region 14 with (first
    | (go_at_call 81; clear t4; refine (hG _ h1).mono ?_; rintro e w1 ⟨⟨k0, rfl⟩, hw⟩; replace hw := hw.symm; subst hw)
    | (go_at_call 81; clear t8; refine (hG4 _ (h1.below (below_alloc1 _ _))).mono ?_; rintro e w1 ⟨⟨k1, rfl⟩, hw⟩; subst hw)
    | (go_at_call 81; refine (hG8 _ (h1.below (below_alloc1 _ _))).mono ?_; rintro e w1 ⟨⟨k2, rfl⟩, hw⟩; subst hw))
  obtain ⟨W3, hW3⟩ : ∃ W3, W3 = W1.alloc (.cells #[.int .i64 1, .int .i64 se, .int .i64 xi, .int .i64 0, .int .i64 0, .slice none 0 0, .slice none 0 0, .slice none 0 0, .bool false, .slice none 0 0] 30) := ⟨_, rfl⟩
  have b3 : Below W1.heap.size W1 W3 := by subst hW3; exact below_alloc1 _ _
  have kM : W3.heap[W1.heap.size]? = some (.cells #[.int .i64 1, .int .i64 se, .int .i64 xi, .int .i64 0, .int .i64 0, .slice none 0 0, .slice none 0 0, .slice none 0 0, .bool false, .slice none 0 0] 30 (0, 0)) := by subst hW3; exact at_new rfl
  replace kR := (b3.block _ (blk_lt kR)).trans kR
  replace kN := (b3.block _ (blk_lt kN)).trans kN
  have B3 : Below w.heap.size w W3 := Rw.next B1 b3
  rw [← hW3]
  clear hW3 b3 B1 g0 g1 hG hG4 hG8 h1 hlb hl0 hx hx1 z1 z2
  obtain ⟨gm, hgm⟩ : ∃ gm, gm = W1.heap.size := ⟨_, rfl⟩
  rw [← hgm] at hlt kM ⊢
  clear hgm
  obtain ⟨y0, y1, y2, y3, y4, y5, y6, y7, y8, y9⟩ := Ga.ten kM
  go_upto_region 41 with fail
  clear y0 y1 y2 y3 y4 y5 y6 y7 y8 y9
  have B := B3
  obtain ⟨W5, hW5⟩ : ∃ W5, W5 = W3 := ⟨_, rfl⟩
  rw [← hW5] at kM kR kN B ⊢
  clear hW5 B3
  obtain ⟨f, hf⟩ : ∃ f, f = nilF 1 se xi 0 gm := ⟨_, rfl⟩
  obtain ⟨okf, wtf, apf, uf⟩ := nilF_ok 1 se xi 0 gm W5
  have sf : (nilF 1 se xi 0 gm).said = x := HX.out
  replace kM : W5.heap[gm]? = some (.cells (nilF 1 se xi 0 gm).vals 30 (0, 0)) := kM
  rw [← hf] at okf wtf apf uf sf kM
  clear hf HX
  have hS := Ja.bytesSp f W5 okf
  rw [sf] at hS
  simp only [Ga.msg_vals] at kM hS
  obtain ⟨y0, y1, y2, y3, y4, y5, y6, y7, y8, y9⟩ := Ga.ten kM
  have hl0 : w.heap.size < gm := by omega
  by_cases hL : Ja.writtenL x = l
  · have hB : Ga.msgB x = true := written_ok hL hl12
    obtain ⟨e1, e2⟩ := HY.out hL
    subst e1 e2
    rw [hB, hL] at hS
    have uu : ∀ y, Jm.Use4 f y → y ≠ w.heap.size := fun y hy => by have := uf y hy; omega
    clear hB hL HY HN
    go_wp2_with (first
      | (go_at_call 17; refine hS.mono ?_; rintro e w5 ⟨ga, gg, gc, rfl, gwt, glo, gnil, gcap, hb5⟩; replace kM := (hb5.block _ (Ea.blk_lt kM)).trans kM; replace kR := (hb5.block _ (Ea.blk_lt kR)).trans kR; replace B := Rw.next B hb5; replace okf := okf.below hb5; replace wtf := wtf.below hb5; clear hS gnil gcap hb5 glo y0 y1 y2 y3 y4 y5 y6 y7 y8 y9; have rd5 := HRD.out.below B)
      | (go_at_call 97; refine (same_any _ _ _ _ _ _ _ _ _ _ _ gwt.rd rd5).mono ?_; rw [decide_eq_true rfl]; rintro e w6 ⟨rfl, hw⟩; replace hw := hw.symm; subst hw; obtain ⟨y0, y1, y2, y3, y4, y5, y6, y7, y8, y9⟩ := Ga.ten kM; obtain ⟨r0, r1, r2, r3, r4, r5, r6, r7, r8, r9⟩ := Ga.ten kR; have fR := Bl.free kR))
    have on5 := ((((((((((Only.refl w.heap.size w5).set (o := 0) (.int .i64 f.kd)).set (o := 1) (.int .i64 f.se)).set (o := 2) (.int .i64 f.xi)).set (o := 3) (.int .i64 f.e.ep)).set (o := 4) (.int .i64 f.e.pr)).set (o := 5) (.slice f.e.aV f.e.V.length f.e.cV)).set (o := 6) (.slice f.e.aM f.e.M.length f.e.cM)).set (o := 7) (.slice f.e.aA f.e.A.length f.e.cA)).set (o := 8) (.bool f.hd)).set (o := 9) (.slice f.aH f.H.length f.cH)
    refine bodyPost_ret (v := .tuple #[.agg f.vals, .int .i64 0]) (by simp [results, Try.results29, go_sem, r0, r1, r2, r3, r4, r5, r6, r7, r8, r9, Ga.msg_vals]) rfl ⟨f, rfl, sf, ok_only okf on5 uu, wtm_only wtf on5 uu, apf, fun y hy => (by have := uf y hy; omega), ?_⟩
    exact on5.below B B.size (Nat.le_refl _)
  · obtain ⟨e1, e2⟩ := HN.out hL
    subst e1 e2
    have HL : Hid (¬ Ja.writtenL x = l) := hL
    clear hL wtf apf uf HY HN
    cases hB : Ga.msgB x with
    | true =>
      rw [hB] at hS
      go_wp2_with (first
        | (go_at_call 17; refine hS.mono ?_; rintro e w5 ⟨ga, gg, gc, rfl, gwt, glo, gnil, gcap, hb5⟩; replace kN := (hb5.block _ (Ea.blk_lt kN)).trans kN; replace kR := (hb5.block _ (Ea.blk_lt kR)).trans kR; replace B := Rw.next B hb5; clear hS gnil gcap hb5 glo y0 y1 y2 y3 y4 y5 y6 y7 y8 y9; have rd5 := HRD.out.below B)
        | (go_at_call 97; refine (same_any _ _ _ _ _ _ _ _ _ _ _ gwt.rd rd5).mono ?_; rw [decide_eq_false HL.out]; rintro e w6 ⟨rfl, hw⟩; replace hw := hw.symm; subst hw; obtain ⟨y0, y1, y2, y3, y4, y5, y6, y7, y8, y9⟩ := Ga.ten kN; obtain ⟨r0, r1, r2, r3, r4, r5, r6, r7, r8, r9⟩ := Ga.ten kR; have fR := Bl.free kR))
      refine bodyPost_ret (v := .tuple #[.agg #[.int .i64 0, .int .i64 0, .int .i64 0, .int .i64 0, .int .i64 0, .slice none 0 0, .slice none 0 0, .slice none 0 0, .bool false, .slice none 0 0], .int .i64 5]) (by simp [results, Try.results29, go_sem, r0, r1, r2, r3, r4, r5, r6, r7, r8, r9]) rfl ?_
      refine resF_no 5 ?_
      refine Only.below (g := w.heap.size) ?_ B B.size (Nat.le_refl _)
      repeat (first | with_reducible exact Only.refl _ _ | refine Only.set ?_ _)
    | false =>
      rw [hB] at hS
      go_wp2_with (go_at_call 17; refine hS.mono ?_; rintro e w5 ⟨ga, gg, gc, rfl, gwt, glo, gnil, gcap, hb5⟩; replace kN := (hb5.block _ (Ea.blk_lt kN)).trans kN; replace kR := (hb5.block _ (Ea.blk_lt kR)).trans kR; replace B := Rw.next B hb5; clear hS gnil gcap hb5 glo y0 y1 y2 y3 y4 y5 y6 y7 y8 y9; obtain ⟨y0, y1, y2, y3, y4, y5, y6, y7, y8, y9⟩ := Ga.ten kN; obtain ⟨r0, r1, r2, r3, r4, r5, r6, r7, r8, r9⟩ := Ga.ten kR; have fR := Bl.free kR)
      refine bodyPost_ret (v := .tuple #[.agg #[.int .i64 0, .int .i64 0, .int .i64 0, .int .i64 0, .int .i64 0, .slice none 0 0, .slice none 0 0, .slice none 0 0, .bool false, .slice none 0 0], .int .i64 5]) (by simp [results, Try.results29, go_sem, r0, r1, r2, r3, r4, r5, r6, r7, r8, r9]) rfl ?_
      refine resF_no 5 ?_
      refine Only.below (g := w.heap.size) ?_ B B.size (Nat.le_refl _)
      repeat (first | with_reducible exact Only.refl _ _ | refine Only.set ?_ _)

end Go.Proofs.Ytcbhpmgjmpbpmaa.Wj
namespace Go.Proofs.Ytcbhpmgjmpbpmaa.Wj
open Go Go.RowKit
set_option maxRecDepth 8000
set_option linter.unusedSimpArgs false
set_option linter.unusedVariables false
open Num Pl Rw Mk Un Put App Ea Pr Wa

theorem half_zero {w : World} {g : Nat} (v : Nat → Int) (h : Hr.Mine w g (Pm.lst Pa.nul)) : Pm.Half w g 0 v := by
  unfold Pm.Half
  have := h.row
  rw [Pm.lst_len] at this
  exact World.rowIs.congr this (fun i hi => by rw [Pm.lst_at Pa.nul hi]; simp [Pa.cut, Pa.nul])
def addF (se xi ep pr : Int) (V M : List Int) (A : List Yb.A3) (gV gM : Nat) (aA : Option Addr) (gA cA : Nat) : Ga.Msg := ⟨2, se, xi, ⟨ep, pr, V, M, A, 0, some ⟨gV, 0, none⟩, gV, 0, 8, some ⟨gM, 0, none⟩, gM, 0, 8, aA, gA, 0, cA⟩, false, [], none, gV + gM + gA + 1, 0, 0⟩
theorem addF_ok {se xi ep pr : Int} {V M : List Int} {A : List Yb.A3} {gV gM : Nat} {aA : Option Addr} {gA cA gm : Nat} {w : World} (hV : Hr.Mine w gV V) (hM : Hr.Mine w gM M) (hA : Yb.Rd w aA gA 0 A) (wA : Em.WtA w aA gA A) (wV : Po.Wide V) (wM : Po.Wide M) (h1 : gm < gV) (h2 : gm < gM) (h3 : gm < gA) (n1 : gV ≠ gM) (n2 : gV ≠ gA) (n3 : gM ≠ gA) :
    (addF se xi ep pr V M A gV gM aA gA cA).Ok w ∧ Jm.WtM w (addF se xi ep pr V M A gV gM aA gA cA) ∧ Jm.Ap4 (addF se xi ep pr V M A gV gM aA gA cA) ∧ ∀ y, Jm.Use4 (addF se xi ep pr V M A gV gM aA gA cA) y → gm < y := by
  refine ⟨?_, ?_, ?_, ?_⟩
  · exact ⟨⟨(Hr.mine_wt hV).rd, (Hr.mine_wt hM).rd, hA, wV, wM⟩, rfl, ⟨fun h => by simp [addF] at h, fun i h => by simp [addF] at h, by simp [addF]⟩, wide0⟩
  · exact ⟨Hr.mine_wt hV, Hr.mine_wt hM, wA, ⟨fun h => by simp [addF] at h, fun i h => by simp [addF] at h, fun i h => by simp [addF] at h, by simp [addF]⟩⟩
  · exact ⟨n1, n2, n3, by simp only [addF]; omega, by simp only [addF]; omega, by simp only [addF]; omega⟩
  · intro y hy
    rcases hy with rfl | rfl | rfl | rfl <;> ((try simp only [addF]); omega)
theorem rA_succ (l : List Int) (p j : Nat) : rA l p (j + 1) = rA l p j ++ [(rdn l (p + 8 * j) 1, rdn l (p + 8 * j + 1) 1, rdn l (p + 8 * j + 2) 6)] := by
  unfold rA; rw [List.range_succ, List.map_append]; rfl
theorem oa_set {w : World} {B : Nat} {v : Value} {l : List Yb.A3} {x : Addr} {u : Value} (h : OA w B v l) (hx : x.block < B) : OA (w.setCell x u) B v l := by
  refine ⟨h.1, h.2.imp id ?_⟩
  rintro ⟨g, cap, cur, e1, hb, hg, rest⟩
  exact ⟨g, cap, cur, e1, hb, (Below.heap_setCell w x u g (by omega)).trans hg, rest⟩

set_option maxHeartbeats 8000000 in
theorem sread2 (a : Option Addr) (b off cap : Nat) (l : List Int) (w : World) (h : Rd w a b off l) (hc : code l = 0) (hk : l.getD 1 0 = 2) (n : Nat) (hnn : (n : Int) = rdn l 114 1) (x X : Ga.Said) (C : Int)
    (HX : Hid ((2, rdn l 4 4, rdn l 8 4, (rdn l 12 4, rdn l 16 2, Pm.lst (rV l 18), Pm.lst (rM l 18), rA l 115 (min n 13), 0), false, []) = x))
    (hy : Ja.writtenL x = l → X = x ∧ C = 0) (hn : ¬ Ja.writtenL x = l → X = said0 ∧ C = 5) :
    Calls Try.prog 29 #[.slice a l.length cap] w (ResF w X C) := by
  have HY : Hid (Ja.writtenL x = l → X = x ∧ C = 0) := hy
  have HN : Hid (¬ Ja.writtenL x = l → X = said0 ∧ C = 5) := hn
  clear hy hn
  obtain ⟨W1, hW1⟩ : ∃ W1, W1 = (w.alloc (.cells #[.int .i64 0, .int .i64 0, .int .i64 0, .int .i64 0, .int .i64 0, .slice none 0 0, .slice none 0 0, .slice none 0 0, .bool false, .slice none 0 0] 30)).alloc (.cells #[.int .i64 0, .int .i64 0, .int .i64 0, .int .i64 0, .int .i64 0, .slice none 0 0, .slice none 0 0, .slice none 0 0, .bool false, .slice none 0 0] 30) := ⟨_, rfl⟩
  have B1 : Below w.heap.size w W1 := by subst hW1; exact Rw.next (below_alloc1 _ _) (below_alloc1 _ _)
  have kR : W1.heap[w.heap.size]? = some (.cells #[.int .i64 0, .int .i64 0, .int .i64 0, .int .i64 0, .int .i64 0, .slice none 0 0, .slice none 0 0, .slice none 0 0, .bool false, .slice none 0 0] 30 (0, 0)) := by subst hW1; rw [at_old (by simp), at_new rfl]
  have kN : W1.heap[w.heap.size + 1]? = some (.cells #[.int .i64 0, .int .i64 0, .int .i64 0, .int .i64 0, .int .i64 0, .slice none 0 0, .slice none 0 0, .slice none 0 0, .bool false, .slice none 0 0] 30 (0, 0)) := by subst hW1; exact at_new (by simp)
  have h1 := h.below B1
  have hlt := blk_lt kN
  obtain ⟨c1, c2, c3, c4⟩ := code_zero hc
  have z1 : ¬ (l.length : Int) < 12 := by omega
  have z2 : ¬ (300 : Int) < (l.length : Int) := by omega
  obtain rfl := h1.head (by omega)
  have g0 := h1.cell 0 (by omega)
  simp only [Nat.add_zero, c2] at g0
  have g1 := h1.cell 1 (by omega)
  rw [hk] at g1
  have hG := fun W hh => sget (some ⟨b, off, none⟩) b off cap l 2 2 W hh (by omega) (by omega)
  have hG4 := fun W hh => sget (some ⟨b, off, none⟩) b off cap l 4 4 W hh (by omega) (by omega)
  have hG8 := fun W hh => sget (some ⟨b, off, none⟩) b off cap l 8 4 W hh (by omega) (by omega)
  rw [told_rdn h.byt (by omega), c3] at hG
  have hx : (0 : Int) < (l.length : Int) := by omega
  have hx1 : (1 : Int) < (l.length : Int) := by omega
  have hl12 : 12 ≤ l.length := by omega
  have HRD : Hid (Rd w (some ⟨b, off, none⟩) b off l) := h
  clear c1 c2 c3 c4 hc h
  generalize rdn l 4 4 = se at *
  generalize rdn l 8 4 = xi at *
  have t4 : True := trivial
  have t8 : True := trivial
  have hl0 : w.heap.size < W1.heap.size := by omega
  have hlb : b < W1.heap.size := World.block_lt_of_cell? _ _ g1
  go_enter Try.func29, Try.ntmps29
  go_upto_region 4 with fail
  rw [← hW1]
  clear hW1
  go_upto_region 14 with (first
    | (go_at_call 81; clear t4; refine (hG _ h1).mono ?_; rintro e w1 ⟨⟨k0, rfl⟩, hw⟩; replace hw := hw.symm; subst hw)
    | (go_at_call 81; clear t8; refine (hG4 _ (h1.below (below_alloc1 _ _))).mono ?_; rintro e w1 ⟨⟨k1, rfl⟩, hw⟩; subst hw)
    | (go_at_call 81; refine (hG8 _ (h1.below (below_alloc1 _ _))).mono ?_; rintro e w1 ⟨⟨k2, rfl⟩, hw⟩; subst hw))
  obtain ⟨W3, hW3⟩ : ∃ W3, W3 = W1.alloc (.cells #[.int .i64 2, .int .i64 se, .int .i64 xi, .int .i64 0, .int .i64 0, .slice none 0 0, .slice none 0 0, .slice none 0 0, .bool false, .slice none 0 0] 30) := ⟨_, rfl⟩
  have b3 : Below W1.heap.size W1 W3 := by subst hW3; exact below_alloc1 _ _
  have kM : W3.heap[W1.heap.size]? = some (.cells #[.int .i64 2, .int .i64 se, .int .i64 xi, .int .i64 0, .int .i64 0, .slice none 0 0, .slice none 0 0, .slice none 0 0, .bool false, .slice none 0 0] 30 (0, 0)) := by subst hW3; exact at_new rfl
  replace kR := (b3.block _ (blk_lt kR)).trans kR
  replace kN := (b3.block _ (blk_lt kN)).trans kN
  have B3 : Below w.heap.size w W3 := Rw.next B1 b3
  rw [← hW3]
  clear hW3 b3 B1 g0 g1 hG hG4 hG8 h1 hlb hl0 hx hx1 z1 z2
  obtain ⟨gm, hgm⟩ : ∃ gm, gm = W1.heap.size := ⟨_, rfl⟩
  rw [← hgm] at hlt kM ⊢
  clear hgm
  have hG12 := fun W hh => sget (some ⟨b, off, none⟩) b off cap l 12 4 W hh (by omega) (by omega)
  have hG16 := fun W hh => sget (some ⟨b, off, none⟩) b off cap l 16 2 W hh (by omega) (by omega)
  have hGn := fun W hh => sget (some ⟨b, off, none⟩) b off cap l 114 1 W hh (by omega) (by omega)
  have hn255 : n ≤ 255 := by
    have := (rdn_bd HRD.out.byt 114 1).2
    rw [← hnn, show ((pw 1 : Nat) : Int) = 256 by decide] at this
    omega
  rw [← hnn] at hGn
  clear hnn
  generalize rdn l 12 4 = ep at *
  generalize rdn l 16 2 = pr at *
  obtain ⟨y0, y1, y2, y3, y4, y5, y6, y7, y8, y9⟩ := Ga.ten kM
  have fM := Bl.free kM
  have rd3 := HRD.out.below B3
  have t12 : True := trivial
  obtain ⟨W4, hW4⟩ : ∃ W4, W4 = (W3.setCell ⟨gm, 3, none⟩ (.int .i64 ep)).setCell ⟨gm, 4, none⟩ (.int .i64 pr) := ⟨_, rfl⟩
  have kM4 : W4.heap[gm]? = some (.cells #[.int .i64 2, .int .i64 se, .int .i64 xi, .int .i64 ep, .int .i64 pr, .slice none 0 0, .slice none 0 0, .slice none 0 0, .bool false, .slice none 0 0] 30 (0, 0)) := by subst hW4; exact Ea.blk_same (Ea.blk_same kM)
  have kR4 : W4.heap[w.heap.size]? = some (.cells #[.int .i64 0, .int .i64 0, .int .i64 0, .int .i64 0, .int .i64 0, .slice none 0 0, .slice none 0 0, .slice none 0 0, .bool false, .slice none 0 0] 30 (0, 0)) := by subst hW4; exact Ea.blk_other (Ea.blk_other kR (by omega)) (by omega)
  have kN4 : W4.heap[w.heap.size + 1]? = some (.cells #[.int .i64 0, .int .i64 0, .int .i64 0, .int .i64 0, .int .i64 0, .slice none 0 0, .slice none 0 0, .slice none 0 0, .bool false, .slice none 0 0] 30 (0, 0)) := by subst hW4; exact Ea.blk_other (Ea.blk_other kN (by omega)) (by omega)
  have B4 : Below w.heap.size w W4 := by subst hW4; exact (B3.setCell (by simp; omega) _).setCell (by simp; omega) _
  go_upto_region 18 with (first
    | (go_at_call 81; clear t12; refine (hG12 _ rd3).mono ?_; rintro e w1 ⟨⟨k3, rfl⟩, hw⟩; replace hw := hw.symm; subst hw)
    | (go_at_call 81; refine (hG16 _ (HRD.out.below (B3.setCell (by simp; omega) _))).mono ?_; rintro e w1 ⟨⟨k4, rfl⟩, hw⟩; subst hw))
  rw [← hW4]
  clear hW4 y0 y1 y2 y3 y4 y5 y6 y7 y8 y9 fM rd3 kM kR kN B3 hG12 hG16
  have lgm := Ea.blk_lt kM4
  go_upto_region 19 with (go_at_call 96; refine (Mr.allS_mine _).mono ?_; rintro e w5 ⟨gV, gM, rfl, mV, mM, hgV, hgM, hVM, hb5⟩; have kM5 := (hb5.block _ lgm).trans kM4; have kR5 := (hb5.block _ (Ea.blk_lt kR4)).trans kR4; have kN5 := (hb5.block _ (Ea.blk_lt kN4)).trans kN4; have B5 := Rw.next B4 hb5; have q5 := (Ga.ten kM5).2.2.2.2.2.1; have q6 := (Ga.ten kM5).2.2.2.2.2.2.1; have f5 := Bl.free kM5)
  obtain ⟨W6, hW6⟩ : ∃ W6, W6 = (w5.setCell ⟨gm, 5, none⟩ (.slice (some ⟨gV, 0, none⟩) 8 8)).setCell ⟨gm, 6, none⟩ (.slice (some ⟨gM, 0, none⟩) 8 8) := ⟨_, rfl⟩
  have kM : W6.heap[gm]? = some (.cells #[.int .i64 2, .int .i64 se, .int .i64 xi, .int .i64 ep, .int .i64 pr, .slice (some ⟨gV, 0, none⟩) 8 8, .slice (some ⟨gM, 0, none⟩) 8 8, .slice none 0 0, .bool false, .slice none 0 0] 30 (0, 0)) := by subst hW6; exact Ea.blk_same (Ea.blk_same kM5)
  have kR : W6.heap[w.heap.size]? = some (.cells #[.int .i64 0, .int .i64 0, .int .i64 0, .int .i64 0, .int .i64 0, .slice none 0 0, .slice none 0 0, .slice none 0 0, .bool false, .slice none 0 0] 30 (0, 0)) := by subst hW6; exact Ea.blk_other (Ea.blk_other kR5 (by omega)) (by omega)
  have kN : W6.heap[w.heap.size + 1]? = some (.cells #[.int .i64 0, .int .i64 0, .int .i64 0, .int .i64 0, .int .i64 0, .slice none 0 0, .slice none 0 0, .slice none 0 0, .bool false, .slice none 0 0] 30 (0, 0)) := by subst hW6; exact Ea.blk_other (Ea.blk_other kN5 (by omega)) (by omega)
  have B : Below w.heap.size w W6 := by subst hW6; exact (B5.setCell (by simp; omega) _).setCell (by simp; omega) _
  have hV : Pm.Half W6 gV 0 (rV l 18) := by subst hW6; exact ((half_zero (rV l 18) mV).other (by simp; omega) _).other (by simp; omega) _
  have hM : Pm.Half W6 gM 0 (rM l 18) := by subst hW6; exact ((half_zero (rM l 18) mM).other (by simp; omega) _).other (by simp; omega) _
  rw [← hW6]
  have cV : gm < gV := by omega
  have cM : gm < gM := by omega
  have ne1 : gm ≠ gV := by omega
  have ne2 : gV ≠ gm := by omega
  have ne3 : gm ≠ gM := by omega
  have ne4 : gM ≠ gm := by omega
  have HBy : Hid (Byt l) := HRD.out.byt
  clear hW6 kM5 kR5 kN5 B5 q5 q6 f5 mV mM hb5 kM4 kR4 kN4 B4 hgV hgM
  go_wp2
  go_loopw [8] (fun i wr => ∃ (j : Nat), j ≤ 8 ∧ i = .int .i64 j ∧ wr.heap[gm]? = some (.cells #[.int .i64 2, .int .i64 se, .int .i64 xi, .int .i64 ep, .int .i64 pr, .slice (some ⟨gV, 0, none⟩) 8 8, .slice (some ⟨gM, 0, none⟩) 8 8, .slice none 0 0, .bool false, .slice none 0 0] 30 (0, 0)) ∧ wr.heap[w.heap.size]? = some (.cells #[.int .i64 0, .int .i64 0, .int .i64 0, .int .i64 0, .int .i64 0, .slice none 0 0, .slice none 0 0, .slice none 0 0, .bool false, .slice none 0 0] 30 (0, 0)) ∧ wr.heap[w.heap.size + 1]? = some (.cells #[.int .i64 0, .int .i64 0, .int .i64 0, .int .i64 0, .int .i64 0, .slice none 0 0, .slice none 0 0, .slice none 0 0, .bool false, .slice none 0 0] 30 (0, 0)) ∧ Pm.Half wr gV j (rV l 18) ∧ Pm.Half wr gM j (rM l 18) ∧ Below w.heap.size w wr) (fun i _ => 8 - (intOf i).toNat)
  case atStart => exact ⟨0, by omega, rfl, kM, kR, kN, hV, hM, B⟩
  case round =>
    clear kM kR kN B hV hM
    obtain ⟨j, hj, rfl, kM, kR, kN, hV, hM, B⟩ := hrel
    by_cases hlt8 : j < 8
    · have hjz : (j : Int) < 8 := by omega
      have e1 : rdn l (18 + 12 * j) 6 = rV l 18 j := rfl
      have e2 : rdn l (24 + 12 * j) 6 = rM l 18 j := by show rdn l (24 + 12 * j) 6 = rdn l (18 + 12 * j + 6) 6; rw [show 18 + 12 * j + 6 = 24 + 12 * j by omega]
      have hgV := fun W hh => sget (some ⟨b, off, none⟩) b off cap l (18 + 12 * j) 6 W hh (by omega) (by omega)
      have hgM := fun W hh => sget (some ⟨b, off, none⟩) b off cap l (24 + 12 * j) 6 W hh (by omega) (by omega)
      rw [e1, (by omega : (((18 + 12 * j : Nat) : Int)) = 18 + 12 * (j : Int))] at hgV
      rw [e2, (by omega : (((24 + 12 * j : Nat) : Int)) = 24 + 12 * (j : Int))] at hgM
      obtain ⟨y0, y1, y2, y3, y4, y5, y6, y7, y8, y9⟩ := Ga.ten kM
      have cv := World.rowIs.cell hV hlt8
      have fv := World.rowIs.frozen hV j
      have rd3 := HRD.out.below B
      have rd3' := HRD.out.below B.drew
      have HV : Hid (Pm.Half wr gV j (rV l 18)) := hV
      have HM : Hid (Pm.Half wr gM j (rM l 18)) := hM
      obtain ⟨x0, hx0⟩ : ∃ x0, x0 = rV l 18 j := ⟨_, rfl⟩
      obtain ⟨x1, hx1⟩ : ∃ x1, x1 = rM l 18 j := ⟨_, rfl⟩
      rw [← hx0] at hgV
      rw [← hx1] at hgM
      have E0 : Hid (x0 = rV l 18 j) := hx0
      have E1 : Hid (x1 = rM l 18 j) := hx1
      clear hx0 hx1
      generalize Pa.cut (rV l 18) Pa.nul j j = x9 at cv
      clear e1 e2 hV hM
      have HWv : Hid (IntKind.i64.wrap (18 + IntKind.i64.wrap (12 * (j : Int))) = 18 + 12 * (j : Int)) := by unfold Hid; rw [Get.wraps_i64 (12 * (j : Int)) (by omega) (by omega), Get.wraps_i64 _ (by omega) (by omega)]
      have HWm : Hid (IntKind.i64.wrap (24 + IntKind.i64.wrap (12 * (j : Int))) = 24 + 12 * (j : Int)) := by unfold Hid; rw [Get.wraps_i64 (12 * (j : Int)) (by omega) (by omega), Get.wraps_i64 _ (by omega) (by omega)]
      go_wp2
      go_region_held3 (fun w' => w'.cell? ⟨gm, 5, none⟩ = some (.slice (some ⟨gV, 0, none⟩) 8 8) ∧ w'.cell? ⟨gm, 6, none⟩ = some (.slice (some ⟨gM, 0, none⟩) 8 8)) (go_keep) (first
        | (go_at_call 81; rw [HWv.out]; refine (hgV _ (by first | exact rd3 | exact rd3')).mono ?_; rintro e w1 ⟨⟨k5, rfl⟩, hw⟩; replace hw := hw.symm; subst hw))
      obtain ⟨W7, hW7⟩ : ∃ W7, W7 = (wr.setCell ⟨gV, j, none⟩ (.int .i64 x0)).drew := ⟨_, rfl⟩
      have kM7 : W7.heap[gm]? = some (.cells #[.int .i64 2, .int .i64 se, .int .i64 xi, .int .i64 ep, .int .i64 pr, .slice (some ⟨gV, 0, none⟩) 8 8, .slice (some ⟨gM, 0, none⟩) 8 8, .slice none 0 0, .bool false, .slice none 0 0] 30 (0, 0)) := by subst hW7; exact Ea.blk_other kM (by omega)
      have kR7 : W7.heap[w.heap.size]? = some (.cells #[.int .i64 0, .int .i64 0, .int .i64 0, .int .i64 0, .int .i64 0, .slice none 0 0, .slice none 0 0, .slice none 0 0, .bool false, .slice none 0 0] 30 (0, 0)) := by subst hW7; exact Ea.blk_other kR (by omega)
      have kN7 : W7.heap[w.heap.size + 1]? = some (.cells #[.int .i64 0, .int .i64 0, .int .i64 0, .int .i64 0, .int .i64 0, .slice none 0 0, .slice none 0 0, .slice none 0 0, .bool false, .slice none 0 0] 30 (0, 0)) := by subst hW7; exact Ea.blk_other kN (by omega)
      have B7 : Below w.heap.size w W7 := by subst hW7; exact (B.setCell (by simp; omega) _).drew
      have hV7 : Pm.Half W7 gV (j + 1) (rV l 18) := by subst hW7; rw [E0.out]; exact HV.out.step.drew
      have hM7 : Pm.Half W7 gM j (rM l 18) := by subst hW7; exact (HM.out.other (by simp; omega) _).drew
      rw [← hW7]
      clear hW7 kM kR kN B y0 y1 y2 y3 y4 y5 y6 y7 y8 y9 cv fv rd3 rd3' HV HM E0 hgV HWv
      obtain ⟨y0, y1, y2, y3, y4, y5, y6, y7, y8, y9⟩ := Ga.ten kM7
      have cv := World.rowIs.cell hM7 hlt8
      have fv := World.rowIs.frozen hM7 j
      have rd3 := HRD.out.below B7
      have rd3' := HRD.out.below B7.drew
      have HV : Hid (Pm.Half W7 gV (j + 1) (rV l 18)) := hV7
      have HM : Hid (Pm.Half W7 gM j (rM l 18)) := hM7
      generalize Pa.cut (rM l 18) Pa.nul j j = x8 at cv
      clear hV7 hM7
      go_wp2
      go_region_held3 (fun w' => w'.cell? ⟨gm, 5, none⟩ = some (.slice (some ⟨gV, 0, none⟩) 8 8) ∧ w'.cell? ⟨gm, 6, none⟩ = some (.slice (some ⟨gM, 0, none⟩) 8 8)) (go_keep) (first
        | (go_at_call 81; rw [HWm.out]; refine (hgM _ (by first | exact rd3 | exact rd3')).mono ?_; rintro e w1 ⟨⟨k6, rfl⟩, hw⟩; replace hw := hw.symm; subst hw))
      go_wp2
      go_roundw
      case rel => exact ⟨j + 1, by omega, by go_num, Ea.blk_other kM7 (by omega), Ea.blk_other kR7 (by omega), Ea.blk_other kN7 (by omega), (HV.out.other (by simp; omega) _).drew, (by rw [E1.out]; exact HM.out.step.drew), (B7.setCell (by simp; omega) _).drew⟩
      case measure => simp [intOf]; omega
    · have hj8 : j = 8 := by omega
      subst hj8
      have mV := hV.mine
      have mM := hM.mine
      have wV : Po.Wide (Pm.lst (rV l 18)) := wide_v HBy.out
      have wM : Po.Wide (Pm.lst (rM l 18)) := wide_m HBy.out
      clear hV hM
      have HXX := HX
      have rd3 := HRD.out.below B
      obtain ⟨B0, hB0⟩ : ∃ B0, B0 = wr.heap.size := ⟨_, rfl⟩
      have lV : gV < B0 := by rw [hB0]; exact mV.row.lt
      have lM : gM < B0 := by rw [hB0]; exact mM.row.lt
      have lB : B0 ≤ wr.heap.size := by omega
      clear hB0
      go_upto_region 25 with (go_at_call 81; refine (hGn _ rd3).mono ?_; rintro e w1 ⟨⟨k7, rfl⟩, hw⟩; replace hw := hw.symm; subst hw)
      clear rd3 HXX
      go_wp2
      go_loopw [11, 12, 13] (fun i _ _ wq => ∃ (j : Nat) (v : Value), j ≤ min n 13 ∧ i = .int .i64 j ∧ wq.heap[gm]? = some (.cells #[.int .i64 2, .int .i64 se, .int .i64 xi, .int .i64 ep, .int .i64 pr, .slice (some ⟨gV, 0, none⟩) 8 8, .slice (some ⟨gM, 0, none⟩) 8 8, v, .bool false, .slice none 0 0] 30 (0, 0)) ∧ wq.heap[w.heap.size]? = some (.cells #[.int .i64 0, .int .i64 0, .int .i64 0, .int .i64 0, .int .i64 0, .slice none 0 0, .slice none 0 0, .slice none 0 0, .bool false, .slice none 0 0] 30 (0, 0)) ∧ wq.heap[w.heap.size + 1]? = some (.cells #[.int .i64 0, .int .i64 0, .int .i64 0, .int .i64 0, .int .i64 0, .slice none 0 0, .slice none 0 0, .slice none 0 0, .bool false, .slice none 0 0] 30 (0, 0)) ∧ Hr.Mine wq gV (Pm.lst (rV l 18)) ∧ Hr.Mine wq gM (Pm.lst (rM l 18)) ∧ OA wq B0 v (rA l 115 j) ∧ B0 ≤ wq.heap.size ∧ Below w.heap.size w wq) (fun i _ _ _ => 13 - (intOf i).toNat)
      case atStart => exact ⟨0, .slice none 0 0, by omega, rfl, kM, kR, kN, mV, mM, World.ownsRow_nil _ _ _ _, lB, B⟩
      case round =>
        clear kM kR kN mV mM lB B
        obtain ⟨j, v, hj, rfl, kM, kR, kN, mV, mM, own, lB, B⟩ := hrel
        by_cases hltn : j < min n 13
        · have hjn : (j : Int) < (n : Int) := by omega
          have hj12 : (j : Int) ≤ 12 := by omega
          have hgA := fun W hh => sget (some ⟨b, off, none⟩) b off cap l (115 + 8 * j) 1 W hh (by omega) (by omega)
          have hgB := fun W hh => sget (some ⟨b, off, none⟩) b off cap l (115 + 8 * j + 1) 1 W hh (by omega) (by omega)
          have hgC := fun W hh => sget (some ⟨b, off, none⟩) b off cap l (115 + 8 * j + 2) 6 W hh (by omega) (by omega)
          rw [(by omega : (((115 + 8 * j : Nat) : Int)) = 115 + 8 * (j : Int))] at hgA
          rw [(by omega : (((115 + 8 * j + 1 : Nat) : Int)) = 115 + 8 * (j : Int) + 1)] at hgB
          rw [(by omega : (((115 + 8 * j + 2 : Nat) : Int)) = 115 + 8 * (j : Int) + 2)] at hgC
          have HT : Hid (rA l 115 (j + 1) = rA l 115 j ++ [(rdn l (115 + 8 * j) 1, rdn l (115 + 8 * j + 1) 1, rdn l (115 + 8 * j + 2) 6)]) := rA_succ l 115 j
          generalize rdn l (115 + 8 * j) 1 = a1 at *
          generalize rdn l (115 + 8 * j + 1) 1 = a2 at *
          generalize rdn l (115 + 8 * j + 2) 6 = a3 at *
          have eL : (rA l 115 j ++ [(a1, a2, a3)]).length = j + 1 := by simp [rA_len]
          have hln : (rA l 115 j).length ≤ 4194304 := by rw [rA_len]; omega
          have own1 := (World.ownsRow.alloc own (.cells #[.int .i64 a1, .int .i64 a2, .int .i64 a3] 133)).alloc (.cells #[.int .i64 a1, .int .i64 a2, .int .i64 a3] 133)
          have lgm := Ea.blk_lt kM
          have lR := Ea.blk_lt kR
          have lN := Ea.blk_lt kN
          have y7 := (Ga.ten kM).2.2.2.2.2.2.2.1
          have RD : Hid (∀ o, Rd (wr.alloc o) (some ⟨b, off, none⟩) b off l) := fun o => HRD.out.below (Rw.next B (below_alloc1 _ _))
          have tA : True := trivial
          have tB : True := trivial
          go_wp2_with (first
            | (go_at_call 81; clear tA; refine (hgA _ (RD.out _)).mono ?_; rintro e w1 ⟨⟨k8, rfl⟩, hw⟩; subst hw)
            | (go_at_call 81; clear tB; refine (hgB _ (RD.out _)).mono ?_; rintro e w1 ⟨⟨k9, rfl⟩, hw⟩; subst hw)
            | (go_at_call 81; refine (hgC _ (RD.out _)).mono ?_; rintro e w1 ⟨⟨k10, rfl⟩, hw⟩; subst hw)
            | (at_builtin; refine app_oa rfl (.tmp 167) (.tmp 169) rfl B0 v _ (a1, a2, a3) rfl own1 (wr.heap.size + 1) 1 rfl (at_new (by simp)) hln (by simp; omega) ?_; intro v' w' own' hgr; obtain ⟨g', c', hv', hg', hl'⟩ := World.ownsRow.form own' (by simp); subst hv'; rw [eL] at own' ⊢; have kM' := (hgr.block gm (by simp; omega) (fun e => by have := (own1.lt _ e.symm).1; omega)).trans ((at_old (by simp; omega)).trans ((at_old lgm).trans kM)); have kR' := (hgr.block w.heap.size (by simp; omega) (fun e => by have := (own1.lt _ e.symm).1; omega)).trans ((at_old (by simp; omega)).trans ((at_old lR).trans kR)); have kN' := (hgr.block (w.heap.size + 1) (by simp; omega) (fun e => by have := (own1.lt _ e.symm).1; omega)).trans ((at_old (by simp; omega)).trans ((at_old lN).trans kN)); have B' : Below w.heap.size w w' := (Rw.next (Rw.next B (below_alloc1 _ _)) (below_alloc1 _ _)).grown hgr (by have := B.size; simp; omega) (fun k hk => by have := (own1.lt k hk).1; have := B.size; omega); have bV := (hgr.block gV (by simp; omega) (fun e => by have := (own1.lt _ e.symm).1; omega)).trans ((at_old (by simp; omega)).trans (at_old (by omega))); have bM := (hgr.block gM (by simp; omega) (fun e => by have := (own1.lt _ e.symm).1; omega)).trans ((at_old (by simp; omega)).trans (at_old (by omega))); have y7' := (Ga.ten kM').2.2.2.2.2.2.2.1; have f7' := Bl.free kM' 7; have lB' : B0 ≤ w'.heap.size := (by have := hgr.size; simp at this; omega)))
          go_roundw
          case rel => exact ⟨j + 1, _, by omega, by go_num, Ea.blk_same kM', Ea.blk_other kR' (by omega), Ea.blk_other kN' (by omega), ⟨(mV.row.of_block bV).setOther (by simp; omega) _, mV.size⟩, ⟨(mM.row.of_block bM).setOther (by simp; omega) _, mM.size⟩, by rw [HT.out]; exact oa_set own' (by simp; omega), by simpa using lB', B'.setCell (by simp; omega) _⟩
          case measure => simp [intOf]; omega
        · have hjm : j = min n 13 := by omega
          have y0 := (Ga.ten kM).1
          have hln : (rA l 115 j).length ≤ 4194304 := by rw [rA_len]; omega
          obtain ⟨aA, gA, cA, hv, hgA, rdA, wtA⟩ := oa_wt own hln B0 (Nat.le_refl _)
          subst hv
          have HXj : Hid ((2, se, xi, (ep, pr, Pm.lst (rV l 18), Pm.lst (rM l 18), rA l 115 j, 0), false, []) = x) := by rw [hjm]; exact HX.out
          obtain ⟨f, hf⟩ : ∃ f, f = addF se xi ep pr (Pm.lst (rV l 18)) (Pm.lst (rM l 18)) (rA l 115 j) gV gM aA gA cA := ⟨_, rfl⟩
          obtain ⟨okf, wtf, apf, uf⟩ := addF_ok (se := se) (xi := xi) (ep := ep) (pr := pr) (cA := cA) mV mM rdA wtA wV wM cV cM (show gm < gA by omega) hVM (show gV ≠ gA by omega) (show gM ≠ gA by omega)
          have sf : (addF se xi ep pr (Pm.lst (rV l 18)) (Pm.lst (rM l 18)) (rA l 115 j) gV gM aA gA cA).said = x := HXj.out
          replace kM : wr.heap[gm]? = some (.cells (addF se xi ep pr (Pm.lst (rV l 18)) (Pm.lst (rM l 18)) (rA l 115 j) gV gM aA gA cA).vals 30 (0, 0)) := by
            show wr.heap[gm]? = some (.cells #[.int .i64 2, .int .i64 se, .int .i64 xi, .int .i64 ep, .int .i64 pr, .slice (some ⟨gV, 0, none⟩) (Pm.lst (rV l 18)).length 8, .slice (some ⟨gM, 0, none⟩) (Pm.lst (rM l 18)).length 8, .slice aA (rA l 115 j).length cA, .bool false, .slice none 0 0] 30 (0, 0))
            rw [Pm.lst_len, Pm.lst_len]
            exact kM
          rw [← hf] at okf wtf apf uf sf kM
          clear HX HXj own rdA wtA wV wM hgA mV mM hln hf
          by_cases hjn : j < n
          · have z1 : (j : Int) < (n : Int) := by omega
            have z2 : ¬ (j : Int) ≤ 12 := by omega
            go_upto_region 41 with fail
            clear y0
            obtain ⟨W5, hW5⟩ : ∃ W5, W5 = wr := ⟨_, rfl⟩
            rw [← hW5] at kM kR kN B okf wtf ⊢
            clear hW5
            have hS := Ja.bytesSp f W5 okf
            rw [sf] at hS
            simp only [Ga.msg_vals] at kM hS
            obtain ⟨y0, y1, y2, y3, y4, y5, y6, y7, y8, y9⟩ := Ga.ten kM
            have hl0 : w.heap.size < gm := by omega
            by_cases hL : Ja.writtenL x = l
            · have hB : Ga.msgB x = true := written_ok hL hl12
              obtain ⟨e1, e2⟩ := HY.out hL
              subst e1 e2
              rw [hB, hL] at hS
              have uu : ∀ y, Jm.Use4 f y → y ≠ w.heap.size := fun y hy => by have := uf y hy; omega
              clear hB hL HY HN
              go_wp2_with (first
                | (go_at_call 17; refine hS.mono ?_; rintro e w5 ⟨ga, gg, gc, rfl, gwt, glo, gnil, gcap, hb5⟩; replace kM := (hb5.block _ (Ea.blk_lt kM)).trans kM; replace kR := (hb5.block _ (Ea.blk_lt kR)).trans kR; replace B := Rw.next B hb5; replace okf := okf.below hb5; replace wtf := wtf.below hb5; clear hS gnil gcap hb5 glo y0 y1 y2 y3 y4 y5 y6 y7 y8 y9; have rd5 := HRD.out.below B)
                | (go_at_call 97; refine (same_any _ _ _ _ _ _ _ _ _ _ _ gwt.rd rd5).mono ?_; rw [decide_eq_true rfl]; rintro e w6 ⟨rfl, hw⟩; replace hw := hw.symm; subst hw; obtain ⟨y0, y1, y2, y3, y4, y5, y6, y7, y8, y9⟩ := Ga.ten kM; obtain ⟨r0, r1, r2, r3, r4, r5, r6, r7, r8, r9⟩ := Ga.ten kR; have fR := Bl.free kR))
              have on5 := ((((((((((Only.refl w.heap.size w5).set (o := 0) (.int .i64 f.kd)).set (o := 1) (.int .i64 f.se)).set (o := 2) (.int .i64 f.xi)).set (o := 3) (.int .i64 f.e.ep)).set (o := 4) (.int .i64 f.e.pr)).set (o := 5) (.slice f.e.aV f.e.V.length f.e.cV)).set (o := 6) (.slice f.e.aM f.e.M.length f.e.cM)).set (o := 7) (.slice f.e.aA f.e.A.length f.e.cA)).set (o := 8) (.bool f.hd)).set (o := 9) (.slice f.aH f.H.length f.cH)
              refine bodyPost_ret (v := .tuple #[.agg f.vals, .int .i64 0]) (by simp [results, Try.results29, go_sem, r0, r1, r2, r3, r4, r5, r6, r7, r8, r9, Ga.msg_vals]) rfl ⟨f, rfl, sf, ok_only okf on5 uu, wtm_only wtf on5 uu, apf, fun y hy => (by have := uf y hy; omega), ?_⟩
              exact on5.below B B.size (Nat.le_refl _)
            · obtain ⟨e1, e2⟩ := HN.out hL
              subst e1 e2
              have HL : Hid (¬ Ja.writtenL x = l) := hL
              clear hL wtf apf uf HY HN
              cases hB : Ga.msgB x with
              | true =>
                rw [hB] at hS
                go_wp2_with (first
                  | (go_at_call 17; refine hS.mono ?_; rintro e w5 ⟨ga, gg, gc, rfl, gwt, glo, gnil, gcap, hb5⟩; replace kN := (hb5.block _ (Ea.blk_lt kN)).trans kN; replace kR := (hb5.block _ (Ea.blk_lt kR)).trans kR; replace B := Rw.next B hb5; clear hS gnil gcap hb5 glo y0 y1 y2 y3 y4 y5 y6 y7 y8 y9; have rd5 := HRD.out.below B)
                  | (go_at_call 97; refine (same_any _ _ _ _ _ _ _ _ _ _ _ gwt.rd rd5).mono ?_; rw [decide_eq_false HL.out]; rintro e w6 ⟨rfl, hw⟩; replace hw := hw.symm; subst hw; obtain ⟨y0, y1, y2, y3, y4, y5, y6, y7, y8, y9⟩ := Ga.ten kN; obtain ⟨r0, r1, r2, r3, r4, r5, r6, r7, r8, r9⟩ := Ga.ten kR; have fR := Bl.free kR))
                refine bodyPost_ret (v := .tuple #[.agg #[.int .i64 0, .int .i64 0, .int .i64 0, .int .i64 0, .int .i64 0, .slice none 0 0, .slice none 0 0, .slice none 0 0, .bool false, .slice none 0 0], .int .i64 5]) (by simp [results, Try.results29, go_sem, r0, r1, r2, r3, r4, r5, r6, r7, r8, r9]) rfl ?_
                refine resF_no 5 ?_
                refine Only.below (g := w.heap.size) ?_ B B.size (Nat.le_refl _)
                repeat (first | with_reducible exact Only.refl _ _ | refine Only.set ?_ _)
              | false =>
                rw [hB] at hS
                go_wp2_with (go_at_call 17; refine hS.mono ?_; rintro e w5 ⟨ga, gg, gc, rfl, gwt, glo, gnil, gcap, hb5⟩; replace kN := (hb5.block _ (Ea.blk_lt kN)).trans kN; replace kR := (hb5.block _ (Ea.blk_lt kR)).trans kR; replace B := Rw.next B hb5; clear hS gnil gcap hb5 glo y0 y1 y2 y3 y4 y5 y6 y7 y8 y9; obtain ⟨y0, y1, y2, y3, y4, y5, y6, y7, y8, y9⟩ := Ga.ten kN; obtain ⟨r0, r1, r2, r3, r4, r5, r6, r7, r8, r9⟩ := Ga.ten kR; have fR := Bl.free kR)
                refine bodyPost_ret (v := .tuple #[.agg #[.int .i64 0, .int .i64 0, .int .i64 0, .int .i64 0, .int .i64 0, .slice none 0 0, .slice none 0 0, .slice none 0 0, .bool false, .slice none 0 0], .int .i64 5]) (by simp [results, Try.results29, go_sem, r0, r1, r2, r3, r4, r5, r6, r7, r8, r9]) rfl ?_
                refine resF_no 5 ?_
                refine Only.below (g := w.heap.size) ?_ B B.size (Nat.le_refl _)
                repeat (first | with_reducible exact Only.refl _ _ | refine Only.set ?_ _)
          · have z1 : ¬ (j : Int) < (n : Int) := by omega
            go_upto_region 41 with fail
            clear y0
            obtain ⟨W5, hW5⟩ : ∃ W5, W5 = wr := ⟨_, rfl⟩
            rw [← hW5] at kM kR kN B okf wtf ⊢
            clear hW5
            have hS := Ja.bytesSp f W5 okf
            rw [sf] at hS
            simp only [Ga.msg_vals] at kM hS
            obtain ⟨y0, y1, y2, y3, y4, y5, y6, y7, y8, y9⟩ := Ga.ten kM
            have hl0 : w.heap.size < gm := by omega
            by_cases hL : Ja.writtenL x = l
            · have hB : Ga.msgB x = true := written_ok hL hl12
              obtain ⟨e1, e2⟩ := HY.out hL
              subst e1 e2
              rw [hB, hL] at hS
              have uu : ∀ y, Jm.Use4 f y → y ≠ w.heap.size := fun y hy => by have := uf y hy; omega
              clear hB hL HY HN
              go_wp2_with (first
                | (go_at_call 17; refine hS.mono ?_; rintro e w5 ⟨ga, gg, gc, rfl, gwt, glo, gnil, gcap, hb5⟩; replace kM := (hb5.block _ (Ea.blk_lt kM)).trans kM; replace kR := (hb5.block _ (Ea.blk_lt kR)).trans kR; replace B := Rw.next B hb5; replace okf := okf.below hb5; replace wtf := wtf.below hb5; clear hS gnil gcap hb5 glo y0 y1 y2 y3 y4 y5 y6 y7 y8 y9; have rd5 := HRD.out.below B)
                | (go_at_call 97; refine (same_any _ _ _ _ _ _ _ _ _ _ _ gwt.rd rd5).mono ?_; rw [decide_eq_true rfl]; rintro e w6 ⟨rfl, hw⟩; replace hw := hw.symm; subst hw; obtain ⟨y0, y1, y2, y3, y4, y5, y6, y7, y8, y9⟩ := Ga.ten kM; obtain ⟨r0, r1, r2, r3, r4, r5, r6, r7, r8, r9⟩ := Ga.ten kR; have fR := Bl.free kR))
              have on5 := ((((((((((Only.refl w.heap.size w5).set (o := 0) (.int .i64 f.kd)).set (o := 1) (.int .i64 f.se)).set (o := 2) (.int .i64 f.xi)).set (o := 3) (.int .i64 f.e.ep)).set (o := 4) (.int .i64 f.e.pr)).set (o := 5) (.slice f.e.aV f.e.V.length f.e.cV)).set (o := 6) (.slice f.e.aM f.e.M.length f.e.cM)).set (o := 7) (.slice f.e.aA f.e.A.length f.e.cA)).set (o := 8) (.bool f.hd)).set (o := 9) (.slice f.aH f.H.length f.cH)
              refine bodyPost_ret (v := .tuple #[.agg f.vals, .int .i64 0]) (by simp [results, Try.results29, go_sem, r0, r1, r2, r3, r4, r5, r6, r7, r8, r9, Ga.msg_vals]) rfl ⟨f, rfl, sf, ok_only okf on5 uu, wtm_only wtf on5 uu, apf, fun y hy => (by have := uf y hy; omega), ?_⟩
              exact on5.below B B.size (Nat.le_refl _)
            · obtain ⟨e1, e2⟩ := HN.out hL
              subst e1 e2
              have HL : Hid (¬ Ja.writtenL x = l) := hL
              clear hL wtf apf uf HY HN
              cases hB : Ga.msgB x with
              | true =>
                rw [hB] at hS
                go_wp2_with (first
                  | (go_at_call 17; refine hS.mono ?_; rintro e w5 ⟨ga, gg, gc, rfl, gwt, glo, gnil, gcap, hb5⟩; replace kN := (hb5.block _ (Ea.blk_lt kN)).trans kN; replace kR := (hb5.block _ (Ea.blk_lt kR)).trans kR; replace B := Rw.next B hb5; clear hS gnil gcap hb5 glo y0 y1 y2 y3 y4 y5 y6 y7 y8 y9; have rd5 := HRD.out.below B)
                  | (go_at_call 97; refine (same_any _ _ _ _ _ _ _ _ _ _ _ gwt.rd rd5).mono ?_; rw [decide_eq_false HL.out]; rintro e w6 ⟨rfl, hw⟩; replace hw := hw.symm; subst hw; obtain ⟨y0, y1, y2, y3, y4, y5, y6, y7, y8, y9⟩ := Ga.ten kN; obtain ⟨r0, r1, r2, r3, r4, r5, r6, r7, r8, r9⟩ := Ga.ten kR; have fR := Bl.free kR))
                refine bodyPost_ret (v := .tuple #[.agg #[.int .i64 0, .int .i64 0, .int .i64 0, .int .i64 0, .int .i64 0, .slice none 0 0, .slice none 0 0, .slice none 0 0, .bool false, .slice none 0 0], .int .i64 5]) (by simp [results, Try.results29, go_sem, r0, r1, r2, r3, r4, r5, r6, r7, r8, r9]) rfl ?_
                refine resF_no 5 ?_
                refine Only.below (g := w.heap.size) ?_ B B.size (Nat.le_refl _)
                repeat (first | with_reducible exact Only.refl _ _ | refine Only.set ?_ _)
              | false =>
                rw [hB] at hS
                go_wp2_with (go_at_call 17; refine hS.mono ?_; rintro e w5 ⟨ga, gg, gc, rfl, gwt, glo, gnil, gcap, hb5⟩; replace kN := (hb5.block _ (Ea.blk_lt kN)).trans kN; replace kR := (hb5.block _ (Ea.blk_lt kR)).trans kR; replace B := Rw.next B hb5; clear hS gnil gcap hb5 glo y0 y1 y2 y3 y4 y5 y6 y7 y8 y9; obtain ⟨y0, y1, y2, y3, y4, y5, y6, y7, y8, y9⟩ := Ga.ten kN; obtain ⟨r0, r1, r2, r3, r4, r5, r6, r7, r8, r9⟩ := Ga.ten kR; have fR := Bl.free kR)
                refine bodyPost_ret (v := .tuple #[.agg #[.int .i64 0, .int .i64 0, .int .i64 0, .int .i64 0, .int .i64 0, .slice none 0 0, .slice none 0 0, .slice none 0 0, .bool false, .slice none 0 0], .int .i64 5]) (by simp [results, Try.results29, go_sem, r0, r1, r2, r3, r4, r5, r6, r7, r8, r9]) rfl ?_
                refine resF_no 5 ?_
                refine Only.below (g := w.heap.size) ?_ B B.size (Nat.le_refl _)
                repeat (first | with_reducible exact Only.refl _ _ | refine Only.set ?_ _)

end Go.Proofs.Ytcbhpmgjmpbpmaa.Wj
namespace Go.Proofs.Ytcbhpmgjmpbpmaa.Wj
open Go Go.RowKit
set_option maxRecDepth 8000
set_option linter.unusedSimpArgs false
set_option linter.unusedVariables false
open Num Pl Rw Mk Un Put App Ea Pr Wa

set_option maxHeartbeats 4000000 in
theorem sread3 (a : Option Addr) (b off cap : Nat) (l : List Int) (w : World) (h : Rd w a b off l) (hc : code l = 0) (hk : l.getD 1 0 = 3) (x X : Ga.Said) (C : Int) (HX : Hid ((3, rdn l 4 4, rdn l 8 4, (rdn l 12 4, 0, [], [], [], 0), false, []) = x))
    (hy : Ja.writtenL x = l → X = x ∧ C = 0) (hn : ¬ Ja.writtenL x = l → X = said0 ∧ C = 5) :
    Calls Try.prog 29 #[.slice a l.length cap] w (ResF w X C) := by
  have HY : Hid (Ja.writtenL x = l → X = x ∧ C = 0) := hy
  have HN : Hid (¬ Ja.writtenL x = l → X = said0 ∧ C = 5) := hn
  clear hy hn
  obtain ⟨W1, hW1⟩ : ∃ W1, W1 = (w.alloc (.cells #[.int .i64 0, .int .i64 0, .int .i64 0, .int .i64 0, .int .i64 0, .slice none 0 0, .slice none 0 0, .slice none 0 0, .bool false, .slice none 0 0] 30)).alloc (.cells #[.int .i64 0, .int .i64 0, .int .i64 0, .int .i64 0, .int .i64 0, .slice none 0 0, .slice none 0 0, .slice none 0 0, .bool false, .slice none 0 0] 30) := ⟨_, rfl⟩
  have B1 : Below w.heap.size w W1 := by subst hW1; exact Rw.next (below_alloc1 _ _) (below_alloc1 _ _)
  have kR : W1.heap[w.heap.size]? = some (.cells #[.int .i64 0, .int .i64 0, .int .i64 0, .int .i64 0, .int .i64 0, .slice none 0 0, .slice none 0 0, .slice none 0 0, .bool false, .slice none 0 0] 30 (0, 0)) := by subst hW1; rw [at_old (by simp), at_new rfl]
  have kN : W1.heap[w.heap.size + 1]? = some (.cells #[.int .i64 0, .int .i64 0, .int .i64 0, .int .i64 0, .int .i64 0, .slice none 0 0, .slice none 0 0, .slice none 0 0, .bool false, .slice none 0 0] 30 (0, 0)) := by subst hW1; exact at_new (by simp)
  have h1 := h.below B1
  have hlt := blk_lt kN
  obtain ⟨c1, c2, c3, c4⟩ := code_zero hc
  have z1 : ¬ (l.length : Int) < 12 := by omega
  have z2 : ¬ (300 : Int) < (l.length : Int) := by omega
  obtain rfl := h1.head (by omega)
  have g0 := h1.cell 0 (by omega)
  simp only [Nat.add_zero, c2] at g0
  have g1 := h1.cell 1 (by omega)
  rw [hk] at g1
  have hG := fun W hh => sget (some ⟨b, off, none⟩) b off cap l 2 2 W hh (by omega) (by omega)
  have hG4 := fun W hh => sget (some ⟨b, off, none⟩) b off cap l 4 4 W hh (by omega) (by omega)
  have hG8 := fun W hh => sget (some ⟨b, off, none⟩) b off cap l 8 4 W hh (by omega) (by omega)
  rw [told_rdn h.byt (by omega), c3] at hG
  have hx : (0 : Int) < (l.length : Int) := by omega
  have hx1 : (1 : Int) < (l.length : Int) := by omega
  have hl12 : 12 ≤ l.length := by omega
  have HRD : Hid (Rd w (some ⟨b, off, none⟩) b off l) := h
  clear c1 c2 c3 c4 hc h
  generalize rdn l 4 4 = se at *
  generalize rdn l 8 4 = xi at *
  have t4 : True := trivial
  have t8 : True := trivial
  have hl0 : w.heap.size < W1.heap.size := by omega
  have hlb : b < W1.heap.size := World.block_lt_of_cell? _ _ g1
  go_enter Try.func29, Try.ntmps29
  go_upto_region 4 with fail
  rw [← hW1]
  clear hW1
  go_upto_region 14 with (first
    | (go_at_call 81; clear t4; refine (hG _ h1).mono ?_; rintro e w1 ⟨⟨k0, rfl⟩, hw⟩; replace hw := hw.symm; subst hw)
    | (go_at_call 81; clear t8; refine (hG4 _ (h1.below (below_alloc1 _ _))).mono ?_; rintro e w1 ⟨⟨k1, rfl⟩, hw⟩; subst hw)
    | (go_at_call 81; refine (hG8 _ (h1.below (below_alloc1 _ _))).mono ?_; rintro e w1 ⟨⟨k2, rfl⟩, hw⟩; subst hw))
  obtain ⟨W3, hW3⟩ : ∃ W3, W3 = W1.alloc (.cells #[.int .i64 3, .int .i64 se, .int .i64 xi, .int .i64 0, .int .i64 0, .slice none 0 0, .slice none 0 0, .slice none 0 0, .bool false, .slice none 0 0] 30) := ⟨_, rfl⟩
  have b3 : Below W1.heap.size W1 W3 := by subst hW3; exact below_alloc1 _ _
  have kM : W3.heap[W1.heap.size]? = some (.cells #[.int .i64 3, .int .i64 se, .int .i64 xi, .int .i64 0, .int .i64 0, .slice none 0 0, .slice none 0 0, .slice none 0 0, .bool false, .slice none 0 0] 30 (0, 0)) := by subst hW3; exact at_new rfl
  replace kR := (b3.block _ (blk_lt kR)).trans kR
  replace kN := (b3.block _ (blk_lt kN)).trans kN
  have B3 : Below w.heap.size w W3 := Rw.next B1 b3
  rw [← hW3]
  clear hW3 b3 B1 g0 g1 hG hG4 hG8 h1 hlb hl0 hx hx1 z1 z2
  obtain ⟨gm, hgm⟩ : ∃ gm, gm = W1.heap.size := ⟨_, rfl⟩
  rw [← hgm] at hlt kM ⊢
  clear hgm
  have hG12 := fun W hh => sget (some ⟨b, off, none⟩) b off cap l 12 4 W hh (by omega) (by omega)
  generalize rdn l 12 4 = ep at *
  obtain ⟨y0, y1, y2, y3, y4, y5, y6, y7, y8, y9⟩ := Ga.ten kM
  have fM := Bl.free kM
  have rd3 := HRD.out.below B3
  go_upto_region 41 with (go_at_call 81; refine (hG12 _ rd3).mono ?_; rintro e w1 ⟨⟨k3, rfl⟩, hw⟩; replace hw := hw.symm; subst hw)
  clear rd3 hG12 fM y0 y1 y2 y3 y4 y5 y6 y7 y8 y9
  obtain ⟨W5, hW5⟩ : ∃ W5, W5 = W3.setCell ⟨gm, 3, none⟩ (.int .i64 ep) := ⟨_, rfl⟩
  replace kM : W5.heap[gm]? = some (.cells #[.int .i64 3, .int .i64 se, .int .i64 xi, .int .i64 ep, .int .i64 0, .slice none 0 0, .slice none 0 0, .slice none 0 0, .bool false, .slice none 0 0] 30 (0, 0)) := by subst hW5; exact Ea.blk_same kM
  replace kR : W5.heap[w.heap.size]? = some (.cells #[.int .i64 0, .int .i64 0, .int .i64 0, .int .i64 0, .int .i64 0, .slice none 0 0, .slice none 0 0, .slice none 0 0, .bool false, .slice none 0 0] 30 (0, 0)) := by subst hW5; exact Ea.blk_other kR (by omega)
  replace kN : W5.heap[w.heap.size + 1]? = some (.cells #[.int .i64 0, .int .i64 0, .int .i64 0, .int .i64 0, .int .i64 0, .slice none 0 0, .slice none 0 0, .slice none 0 0, .bool false, .slice none 0 0] 30 (0, 0)) := by subst hW5; exact Ea.blk_other kN (by omega)
  have B : Below w.heap.size w W5 := by subst hW5; exact B3.setCell (by simp; omega) _
  rw [← hW5]
  clear hW5 B3
  obtain ⟨f, hf⟩ : ∃ f, f = nilF 3 se xi ep gm := ⟨_, rfl⟩
  obtain ⟨okf, wtf, apf, uf⟩ := nilF_ok 3 se xi ep gm W5
  have sf : (nilF 3 se xi ep gm).said = x := HX.out
  replace kM : W5.heap[gm]? = some (.cells (nilF 3 se xi ep gm).vals 30 (0, 0)) := kM
  rw [← hf] at okf wtf apf uf sf kM
  clear hf HX
  have hS := Ja.bytesSp f W5 okf
  rw [sf] at hS
  simp only [Ga.msg_vals] at kM hS
  obtain ⟨y0, y1, y2, y3, y4, y5, y6, y7, y8, y9⟩ := Ga.ten kM
  have hl0 : w.heap.size < gm := by omega
  by_cases hL : Ja.writtenL x = l
  · have hB : Ga.msgB x = true := written_ok hL hl12
    obtain ⟨e1, e2⟩ := HY.out hL
    subst e1 e2
    rw [hB, hL] at hS
    have uu : ∀ y, Jm.Use4 f y → y ≠ w.heap.size := fun y hy => by have := uf y hy; omega
    clear hB hL HY HN
    go_wp2_with (first
      | (go_at_call 17; refine hS.mono ?_; rintro e w5 ⟨ga, gg, gc, rfl, gwt, glo, gnil, gcap, hb5⟩; replace kM := (hb5.block _ (Ea.blk_lt kM)).trans kM; replace kR := (hb5.block _ (Ea.blk_lt kR)).trans kR; replace B := Rw.next B hb5; replace okf := okf.below hb5; replace wtf := wtf.below hb5; clear hS gnil gcap hb5 glo y0 y1 y2 y3 y4 y5 y6 y7 y8 y9; have rd5 := HRD.out.below B)
      | (go_at_call 97; refine (same_any _ _ _ _ _ _ _ _ _ _ _ gwt.rd rd5).mono ?_; rw [decide_eq_true rfl]; rintro e w6 ⟨rfl, hw⟩; replace hw := hw.symm; subst hw; obtain ⟨y0, y1, y2, y3, y4, y5, y6, y7, y8, y9⟩ := Ga.ten kM; obtain ⟨r0, r1, r2, r3, r4, r5, r6, r7, r8, r9⟩ := Ga.ten kR; have fR := Bl.free kR))
    have on5 := ((((((((((Only.refl w.heap.size w5).set (o := 0) (.int .i64 f.kd)).set (o := 1) (.int .i64 f.se)).set (o := 2) (.int .i64 f.xi)).set (o := 3) (.int .i64 f.e.ep)).set (o := 4) (.int .i64 f.e.pr)).set (o := 5) (.slice f.e.aV f.e.V.length f.e.cV)).set (o := 6) (.slice f.e.aM f.e.M.length f.e.cM)).set (o := 7) (.slice f.e.aA f.e.A.length f.e.cA)).set (o := 8) (.bool f.hd)).set (o := 9) (.slice f.aH f.H.length f.cH)
    refine bodyPost_ret (v := .tuple #[.agg f.vals, .int .i64 0]) (by simp [results, Try.results29, go_sem, r0, r1, r2, r3, r4, r5, r6, r7, r8, r9, Ga.msg_vals]) rfl ⟨f, rfl, sf, ok_only okf on5 uu, wtm_only wtf on5 uu, apf, fun y hy => (by have := uf y hy; omega), ?_⟩
    exact on5.below B B.size (Nat.le_refl _)
  · obtain ⟨e1, e2⟩ := HN.out hL
    subst e1 e2
    have HL : Hid (¬ Ja.writtenL x = l) := hL
    clear hL wtf apf uf HY HN
    cases hB : Ga.msgB x with
    | true =>
      rw [hB] at hS
      go_wp2_with (first
        | (go_at_call 17; refine hS.mono ?_; rintro e w5 ⟨ga, gg, gc, rfl, gwt, glo, gnil, gcap, hb5⟩; replace kN := (hb5.block _ (Ea.blk_lt kN)).trans kN; replace kR := (hb5.block _ (Ea.blk_lt kR)).trans kR; replace B := Rw.next B hb5; clear hS gnil gcap hb5 glo y0 y1 y2 y3 y4 y5 y6 y7 y8 y9; have rd5 := HRD.out.below B)
        | (go_at_call 97; refine (same_any _ _ _ _ _ _ _ _ _ _ _ gwt.rd rd5).mono ?_; rw [decide_eq_false HL.out]; rintro e w6 ⟨rfl, hw⟩; replace hw := hw.symm; subst hw; obtain ⟨y0, y1, y2, y3, y4, y5, y6, y7, y8, y9⟩ := Ga.ten kN; obtain ⟨r0, r1, r2, r3, r4, r5, r6, r7, r8, r9⟩ := Ga.ten kR; have fR := Bl.free kR))
      refine bodyPost_ret (v := .tuple #[.agg #[.int .i64 0, .int .i64 0, .int .i64 0, .int .i64 0, .int .i64 0, .slice none 0 0, .slice none 0 0, .slice none 0 0, .bool false, .slice none 0 0], .int .i64 5]) (by simp [results, Try.results29, go_sem, r0, r1, r2, r3, r4, r5, r6, r7, r8, r9]) rfl ?_
      refine resF_no 5 ?_
      refine Only.below (g := w.heap.size) ?_ B B.size (Nat.le_refl _)
      repeat (first | with_reducible exact Only.refl _ _ | refine Only.set ?_ _)
    | false =>
      rw [hB] at hS
      go_wp2_with (go_at_call 17; refine hS.mono ?_; rintro e w5 ⟨ga, gg, gc, rfl, gwt, glo, gnil, gcap, hb5⟩; replace kN := (hb5.block _ (Ea.blk_lt kN)).trans kN; replace kR := (hb5.block _ (Ea.blk_lt kR)).trans kR; replace B := Rw.next B hb5; clear hS gnil gcap hb5 glo y0 y1 y2 y3 y4 y5 y6 y7 y8 y9; obtain ⟨y0, y1, y2, y3, y4, y5, y6, y7, y8, y9⟩ := Ga.ten kN; obtain ⟨r0, r1, r2, r3, r4, r5, r6, r7, r8, r9⟩ := Ga.ten kR; have fR := Bl.free kR)
      refine bodyPost_ret (v := .tuple #[.agg #[.int .i64 0, .int .i64 0, .int .i64 0, .int .i64 0, .int .i64 0, .slice none 0 0, .slice none 0 0, .slice none 0 0, .bool false, .slice none 0 0], .int .i64 5]) (by simp [results, Try.results29, go_sem, r0, r1, r2, r3, r4, r5, r6, r7, r8, r9]) rfl ?_
      refine resF_no 5 ?_
      refine Only.below (g := w.heap.size) ?_ B B.size (Nat.le_refl _)
      repeat (first | with_reducible exact Only.refl _ _ | refine Only.set ?_ _)

end Go.Proofs.Ytcbhpmgjmpbpmaa.Wj
namespace Go.Proofs.Ytcbhpmgjmpbpmaa.Wj
open Go Go.RowKit
set_option maxRecDepth 8000
set_option linter.unusedSimpArgs false
set_option linter.unusedVariables false
open Num Pl Rw Mk Un Put App Ea Pr Wa

set_option maxHeartbeats 4000000 in
theorem sread4 (a : Option Addr) (b off cap : Nat) (l : List Int) (w : World) (h : Rd w a b off l) (hc : code l = 0) (hk : l.getD 1 0 = 4) (x X : Ga.Said) (C : Int) (HX : Hid ((4, rdn l 4 4, rdn l 8 4, (0, 0, [], [], [], 0), false, []) = x))
    (hy : Ja.writtenL x = l → X = x ∧ C = 0) (hn : ¬ Ja.writtenL x = l → X = said0 ∧ C = 5) :
    Calls Try.prog 29 #[.slice a l.length cap] w (ResF w X C) := by
  have HY : Hid (Ja.writtenL x = l → X = x ∧ C = 0) := hy
  have HN : Hid (¬ Ja.writtenL x = l → X = said0 ∧ C = 5) := hn
  clear hy hn
  obtain ⟨W1, hW1⟩ : ∃ W1, W1 = (w.alloc (.cells #[.int .i64 0, .int .i64 0, .int .i64 0, .int .i64 0, .int .i64 0, .slice none 0 0, .slice none 0 0, .slice none 0 0, .bool false, .slice none 0 0] 30)).alloc (.cells #[.int .i64 0, .int .i64 0, .int .i64 0, .int .i64 0, .int .i64 0, .slice none 0 0, .slice none 0 0, .slice none 0 0, .bool false, .slice none 0 0] 30) := ⟨_, rfl⟩
  have B1 : Below w.heap.size w W1 := by subst hW1; exact Rw.next (below_alloc1 _ _) (below_alloc1 _ _)
  have kR : W1.heap[w.heap.size]? = some (.cells #[.int .i64 0, .int .i64 0, .int .i64 0, .int .i64 0, .int .i64 0, .slice none 0 0, .slice none 0 0, .slice none 0 0, .bool false, .slice none 0 0] 30 (0, 0)) := by subst hW1; rw [at_old (by simp), at_new rfl]
  have kN : W1.heap[w.heap.size + 1]? = some (.cells #[.int .i64 0, .int .i64 0, .int .i64 0, .int .i64 0, .int .i64 0, .slice none 0 0, .slice none 0 0, .slice none 0 0, .bool false, .slice none 0 0] 30 (0, 0)) := by subst hW1; exact at_new (by simp)
  have h1 := h.below B1
  have hlt := blk_lt kN
  obtain ⟨c1, c2, c3, c4⟩ := code_zero hc
  have z1 : ¬ (l.length : Int) < 12 := by omega
  have z2 : ¬ (300 : Int) < (l.length : Int) := by omega
  obtain rfl := h1.head (by omega)
  have g0 := h1.cell 0 (by omega)
  simp only [Nat.add_zero, c2] at g0
  have g1 := h1.cell 1 (by omega)
  rw [hk] at g1
  have hG := fun W hh => sget (some ⟨b, off, none⟩) b off cap l 2 2 W hh (by omega) (by omega)
  have hG4 := fun W hh => sget (some ⟨b, off, none⟩) b off cap l 4 4 W hh (by omega) (by omega)
  have hG8 := fun W hh => sget (some ⟨b, off, none⟩) b off cap l 8 4 W hh (by omega) (by omega)
  rw [told_rdn h.byt (by omega), c3] at hG
  have hx : (0 : Int) < (l.length : Int) := by omega
  have hx1 : (1 : Int) < (l.length : Int) := by omega
  have hl12 : 12 ≤ l.length := by omega
  have HRD : Hid (Rd w (some ⟨b, off, none⟩) b off l) := h
  clear c1 c2 c3 c4 hc h
  generalize rdn l 4 4 = se at *
  generalize rdn l 8 4 = xi at *
  have t4 : True := trivial
  have t8 : True := trivial
  have hl0 : w.heap.size < W1.heap.size := by omega
  have hlb : b < W1.heap.size := World.block_lt_of_cell? _ _ g1
  go_enter Try.func29, Try.ntmps29
  go_upto_region 4 with fail
  rw [← hW1]
  clear hW1
  go_upto_region 14 with (first
    | (go_at_call 81; clear t4; refine (hG _ h1).mono ?_; rintro e w1 ⟨⟨k0, rfl⟩, hw⟩; replace hw := hw.symm; subst hw)
    | (go_at_call 81; clear t8; refine (hG4 _ (h1.below (below_alloc1 _ _))).mono ?_; rintro e w1 ⟨⟨k1, rfl⟩, hw⟩; subst hw)
    | (go_at_call 81; refine (hG8 _ (h1.below (below_alloc1 _ _))).mono ?_; rintro e w1 ⟨⟨k2, rfl⟩, hw⟩; subst hw))
  obtain ⟨W3, hW3⟩ : ∃ W3, W3 = W1.alloc (.cells #[.int .i64 4, .int .i64 se, .int .i64 xi, .int .i64 0, .int .i64 0, .slice none 0 0, .slice none 0 0, .slice none 0 0, .bool false, .slice none 0 0] 30) := ⟨_, rfl⟩
  have b3 : Below W1.heap.size W1 W3 := by subst hW3; exact below_alloc1 _ _
  have kM : W3.heap[W1.heap.size]? = some (.cells #[.int .i64 4, .int .i64 se, .int .i64 xi, .int .i64 0, .int .i64 0, .slice none 0 0, .slice none 0 0, .slice none 0 0, .bool false, .slice none 0 0] 30 (0, 0)) := by subst hW3; exact at_new rfl
  replace kR := (b3.block _ (blk_lt kR)).trans kR
  replace kN := (b3.block _ (blk_lt kN)).trans kN
  have B3 : Below w.heap.size w W3 := Rw.next B1 b3
  rw [← hW3]
  clear hW3 b3 B1 g0 g1 hG hG4 hG8 h1 hlb hl0 hx hx1 z1 z2
  obtain ⟨gm, hgm⟩ : ∃ gm, gm = W1.heap.size := ⟨_, rfl⟩
  rw [← hgm] at hlt kM ⊢
  clear hgm
  obtain ⟨y0, y1, y2, y3, y4, y5, y6, y7, y8, y9⟩ := Ga.ten kM
  go_upto_region 41 with fail
  clear y0 y1 y2 y3 y4 y5 y6 y7 y8 y9
  have B := B3
  obtain ⟨W5, hW5⟩ : ∃ W5, W5 = W3 := ⟨_, rfl⟩
  rw [← hW5] at kM kR kN B ⊢
  clear hW5 B3
  obtain ⟨f, hf⟩ : ∃ f, f = nilF 4 se xi 0 gm := ⟨_, rfl⟩
  obtain ⟨okf, wtf, apf, uf⟩ := nilF_ok 4 se xi 0 gm W5
  have sf : (nilF 4 se xi 0 gm).said = x := HX.out
  replace kM : W5.heap[gm]? = some (.cells (nilF 4 se xi 0 gm).vals 30 (0, 0)) := kM
  rw [← hf] at okf wtf apf uf sf kM
  clear hf HX
  have hS := Ja.bytesSp f W5 okf
  rw [sf] at hS
  simp only [Ga.msg_vals] at kM hS
  obtain ⟨y0, y1, y2, y3, y4, y5, y6, y7, y8, y9⟩ := Ga.ten kM
  have hl0 : w.heap.size < gm := by omega
  by_cases hL : Ja.writtenL x = l
  · have hB : Ga.msgB x = true := written_ok hL hl12
    obtain ⟨e1, e2⟩ := HY.out hL
    subst e1 e2
    rw [hB, hL] at hS
    have uu : ∀ y, Jm.Use4 f y → y ≠ w.heap.size := fun y hy => by have := uf y hy; omega
    clear hB hL HY HN
    go_wp2_with (first
      | (go_at_call 17; refine hS.mono ?_; rintro e w5 ⟨ga, gg, gc, rfl, gwt, glo, gnil, gcap, hb5⟩; replace kM := (hb5.block _ (Ea.blk_lt kM)).trans kM; replace kR := (hb5.block _ (Ea.blk_lt kR)).trans kR; replace B := Rw.next B hb5; replace okf := okf.below hb5; replace wtf := wtf.below hb5; clear hS gnil gcap hb5 glo y0 y1 y2 y3 y4 y5 y6 y7 y8 y9; have rd5 := HRD.out.below B)
      | (go_at_call 97; refine (same_any _ _ _ _ _ _ _ _ _ _ _ gwt.rd rd5).mono ?_; rw [decide_eq_true rfl]; rintro e w6 ⟨rfl, hw⟩; replace hw := hw.symm; subst hw; obtain ⟨y0, y1, y2, y3, y4, y5, y6, y7, y8, y9⟩ := Ga.ten kM; obtain ⟨r0, r1, r2, r3, r4, r5, r6, r7, r8, r9⟩ := Ga.ten kR; have fR := Bl.free kR))
    have on5 := ((((((((((Only.refl w.heap.size w5).set (o := 0) (.int .i64 f.kd)).set (o := 1) (.int .i64 f.se)).set (o := 2) (.int .i64 f.xi)).set (o := 3) (.int .i64 f.e.ep)).set (o := 4) (.int .i64 f.e.pr)).set (o := 5) (.slice f.e.aV f.e.V.length f.e.cV)).set (o := 6) (.slice f.e.aM f.e.M.length f.e.cM)).set (o := 7) (.slice f.e.aA f.e.A.length f.e.cA)).set (o := 8) (.bool f.hd)).set (o := 9) (.slice f.aH f.H.length f.cH)
    refine bodyPost_ret (v := .tuple #[.agg f.vals, .int .i64 0]) (by simp [results, Try.results29, go_sem, r0, r1, r2, r3, r4, r5, r6, r7, r8, r9, Ga.msg_vals]) rfl ⟨f, rfl, sf, ok_only okf on5 uu, wtm_only wtf on5 uu, apf, fun y hy => (by have := uf y hy; omega), ?_⟩
    exact on5.below B B.size (Nat.le_refl _)
  · obtain ⟨e1, e2⟩ := HN.out hL
    subst e1 e2
    have HL : Hid (¬ Ja.writtenL x = l) := hL
    clear hL wtf apf uf HY HN
    cases hB : Ga.msgB x with
    | true =>
      rw [hB] at hS
      go_wp2_with (first
        | (go_at_call 17; refine hS.mono ?_; rintro e w5 ⟨ga, gg, gc, rfl, gwt, glo, gnil, gcap, hb5⟩; replace kN := (hb5.block _ (Ea.blk_lt kN)).trans kN; replace kR := (hb5.block _ (Ea.blk_lt kR)).trans kR; replace B := Rw.next B hb5; clear hS gnil gcap hb5 glo y0 y1 y2 y3 y4 y5 y6 y7 y8 y9; have rd5 := HRD.out.below B)
        | (go_at_call 97; refine (same_any _ _ _ _ _ _ _ _ _ _ _ gwt.rd rd5).mono ?_; rw [decide_eq_false HL.out]; rintro e w6 ⟨rfl, hw⟩; replace hw := hw.symm; subst hw; obtain ⟨y0, y1, y2, y3, y4, y5, y6, y7, y8, y9⟩ := Ga.ten kN; obtain ⟨r0, r1, r2, r3, r4, r5, r6, r7, r8, r9⟩ := Ga.ten kR; have fR := Bl.free kR))
      refine bodyPost_ret (v := .tuple #[.agg #[.int .i64 0, .int .i64 0, .int .i64 0, .int .i64 0, .int .i64 0, .slice none 0 0, .slice none 0 0, .slice none 0 0, .bool false, .slice none 0 0], .int .i64 5]) (by simp [results, Try.results29, go_sem, r0, r1, r2, r3, r4, r5, r6, r7, r8, r9]) rfl ?_
      refine resF_no 5 ?_
      refine Only.below (g := w.heap.size) ?_ B B.size (Nat.le_refl _)
      repeat (first | with_reducible exact Only.refl _ _ | refine Only.set ?_ _)
    | false =>
      rw [hB] at hS
      go_wp2_with (go_at_call 17; refine hS.mono ?_; rintro e w5 ⟨ga, gg, gc, rfl, gwt, glo, gnil, gcap, hb5⟩; replace kN := (hb5.block _ (Ea.blk_lt kN)).trans kN; replace kR := (hb5.block _ (Ea.blk_lt kR)).trans kR; replace B := Rw.next B hb5; clear hS gnil gcap hb5 glo y0 y1 y2 y3 y4 y5 y6 y7 y8 y9; obtain ⟨y0, y1, y2, y3, y4, y5, y6, y7, y8, y9⟩ := Ga.ten kN; obtain ⟨r0, r1, r2, r3, r4, r5, r6, r7, r8, r9⟩ := Ga.ten kR; have fR := Bl.free kR)
      refine bodyPost_ret (v := .tuple #[.agg #[.int .i64 0, .int .i64 0, .int .i64 0, .int .i64 0, .int .i64 0, .slice none 0 0, .slice none 0 0, .slice none 0 0, .bool false, .slice none 0 0], .int .i64 5]) (by simp [results, Try.results29, go_sem, r0, r1, r2, r3, r4, r5, r6, r7, r8, r9]) rfl ?_
      refine resF_no 5 ?_
      refine Only.below (g := w.heap.size) ?_ B B.size (Nat.le_refl _)
      repeat (first | with_reducible exact Only.refl _ _ | refine Only.set ?_ _)

end Go.Proofs.Ytcbhpmgjmpbpmaa.Wj
namespace Go.Proofs.Ytcbhpmgjmpbpmaa.Wj
open Go Go.RowKit
set_option maxRecDepth 8000
set_option linter.unusedSimpArgs false
set_option linter.unusedVariables false
open Num Pl Rw Mk Un Put App Ea Pr Wa

theorem lst_take {v : Nat → Int} {j : Nat} (h : j < 8) : (Pm.lst v).take (j + 1) = (Pm.lst v).take j ++ [v j] := by
  rw [List.take_add_one]
  have e : (Pm.lst v)[j]? = some (v j) := by
    have hl := Pm.lst_len v
    have := Pm.lst_at v h
    rw [List.getElem?_eq_getElem (by omega)]
    simpa [List.getD, List.getElem?_eq_getElem (show j < (Pm.lst v).length by omega)] using this
  rw [e]; rfl
def headF (se xi : Int) (hd : Bool) (H : List Int) (a : Option Addr) (g cap : Nat) : Ga.Msg := ⟨5, se, xi, ⟨0, 0, [], [], [], 0, none, g + 1, 0, 0, none, g + 2, 0, 0, none, g + 3, 0, 0⟩, hd, H, a, g, 0, cap⟩
theorem headF_ok {se xi : Int} {hd : Bool} {H : List Int} {a : Option Addr} {g cap gm : Nat} {w : World} (h : Hr.Wt w a g H) (hw : Po.Wide H) (hg : gm < g) :
    (headF se xi hd H a g cap).Ok w ∧ Jm.WtM w (headF se xi hd H a g cap) ∧ Jm.Ap4 (headF se xi hd H a g cap) ∧ ∀ y, Jm.Use4 (headF se xi hd H a g cap) y → gm < y := by
  refine ⟨?_, ?_, ?_, ?_⟩
  · exact ⟨⟨⟨fun h => by simp [headF] at h, fun i h => by simp [headF] at h, by simp [headF]⟩, ⟨fun h => by simp [headF] at h, fun i h => by simp [headF] at h, by simp [headF]⟩, ⟨fun h => by simp [headF] at h, fun i h => by simp [headF] at h, by simp [headF]⟩, wide0, wide0⟩, rfl, h.rd, hw⟩
  · exact ⟨⟨fun h => by simp [headF] at h, fun i h => by simp [headF] at h, fun i h => by simp [headF] at h, by simp [headF]⟩, ⟨fun h => by simp [headF] at h, fun i h => by simp [headF] at h, fun i h => by simp [headF] at h, by simp [headF]⟩, ⟨fun h => by simp [headF] at h, fun i h => by simp [headF] at h, fun i h => by simp [headF] at h, by simp [headF]⟩, h⟩
  · exact ⟨by simp only [headF]; omega, by simp only [headF]; omega, by simp only [headF]; omega, by simp only [headF]; omega, by simp only [headF]; omega, by simp only [headF]; omega⟩
  · intro y hy
    rcases hy with rfl | rfl | rfl | rfl <;> ((try simp only [headF]); omega)
theorem on_set {w : World} {B : Nat} {v : Value} {l : List Int} {x : Addr} {u : Value} (h : ON w B v l) (hx : x.block < B) : ON (w.setCell x u) B v l := by
  refine ⟨h.1, h.2.imp id ?_⟩
  rintro ⟨g, cap, cur, e1, hb, hg, rest⟩
  exact ⟨g, cap, cur, e1, hb, (Below.heap_setCell w x u g (by omega)).trans hg, rest⟩
theorem hand_rdn {l : List Int} (h : 12 < l.length) (hy : Byt l) : rdn l 12 1 = l.getD 12 0 := by
  unfold rdn
  rw [if_pos (by omega)]
  simp [Get.acc]

set_option maxHeartbeats 8000000 in
theorem sread5 (a : Option Addr) (b off cap : Nat) (l : List Int) (w : World) (h : Rd w a b off l) (hc : code l = 0) (hk : l.getD 1 0 = 5) (x X : Ga.Said) (C : Int) (HX : Hid ((5, rdn l 4 4, rdn l 8 4, (0, 0, [], [], [], 0), rdn l 12 1 == 1, Pm.lst (rH l 13)) = x))
    (hy : Ja.writtenL x = l → X = x ∧ C = 0) (hn : ¬ Ja.writtenL x = l → X = said0 ∧ C = 5) :
    Calls Try.prog 29 #[.slice a l.length cap] w (ResF w X C) := by
  have HY : Hid (Ja.writtenL x = l → X = x ∧ C = 0) := hy
  have HN : Hid (¬ Ja.writtenL x = l → X = said0 ∧ C = 5) := hn
  clear hy hn
  obtain ⟨W1, hW1⟩ : ∃ W1, W1 = (w.alloc (.cells #[.int .i64 0, .int .i64 0, .int .i64 0, .int .i64 0, .int .i64 0, .slice none 0 0, .slice none 0 0, .slice none 0 0, .bool false, .slice none 0 0] 30)).alloc (.cells #[.int .i64 0, .int .i64 0, .int .i64 0, .int .i64 0, .int .i64 0, .slice none 0 0, .slice none 0 0, .slice none 0 0, .bool false, .slice none 0 0] 30) := ⟨_, rfl⟩
  have B1 : Below w.heap.size w W1 := by subst hW1; exact Rw.next (below_alloc1 _ _) (below_alloc1 _ _)
  have kR : W1.heap[w.heap.size]? = some (.cells #[.int .i64 0, .int .i64 0, .int .i64 0, .int .i64 0, .int .i64 0, .slice none 0 0, .slice none 0 0, .slice none 0 0, .bool false, .slice none 0 0] 30 (0, 0)) := by subst hW1; rw [at_old (by simp), at_new rfl]
  have kN : W1.heap[w.heap.size + 1]? = some (.cells #[.int .i64 0, .int .i64 0, .int .i64 0, .int .i64 0, .int .i64 0, .slice none 0 0, .slice none 0 0, .slice none 0 0, .bool false, .slice none 0 0] 30 (0, 0)) := by subst hW1; exact at_new (by simp)
  have h1 := h.below B1
  have hlt := blk_lt kN
  obtain ⟨c1, c2, c3, c4⟩ := code_zero hc
  have z1 : ¬ (l.length : Int) < 12 := by omega
  have z2 : ¬ (300 : Int) < (l.length : Int) := by omega
  obtain rfl := h1.head (by omega)
  have g0 := h1.cell 0 (by omega)
  simp only [Nat.add_zero, c2] at g0
  have g1 := h1.cell 1 (by omega)
  rw [hk] at g1
  have hG := fun W hh => sget (some ⟨b, off, none⟩) b off cap l 2 2 W hh (by omega) (by omega)
  have hG4 := fun W hh => sget (some ⟨b, off, none⟩) b off cap l 4 4 W hh (by omega) (by omega)
  have hG8 := fun W hh => sget (some ⟨b, off, none⟩) b off cap l 8 4 W hh (by omega) (by omega)
  rw [told_rdn h.byt (by omega), c3] at hG
  have hx : (0 : Int) < (l.length : Int) := by omega
  have hx1 : (1 : Int) < (l.length : Int) := by omega
  have hl12 : 12 ≤ l.length := by omega
  have HRD : Hid (Rd w (some ⟨b, off, none⟩) b off l) := h
  clear c1 c2 c3 c4 hc h
  generalize rdn l 4 4 = se at *
  generalize rdn l 8 4 = xi at *
  have t4 : True := trivial
  have t8 : True := trivial
  have hl0 : w.heap.size < W1.heap.size := by omega
  have hlb : b < W1.heap.size := World.block_lt_of_cell? _ _ g1
  go_enter Try.func29, Try.ntmps29
  go_upto_region 4 with fail
  rw [← hW1]
  clear hW1
  go_upto_region 14 with (first
    | (go_at_call 81; clear t4; refine (hG _ h1).mono ?_; rintro e w1 ⟨⟨k0, rfl⟩, hw⟩; replace hw := hw.symm; subst hw)
    | (go_at_call 81; clear t8; refine (hG4 _ (h1.below (below_alloc1 _ _))).mono ?_; rintro e w1 ⟨⟨k1, rfl⟩, hw⟩; subst hw)
    | (go_at_call 81; refine (hG8 _ (h1.below (below_alloc1 _ _))).mono ?_; rintro e w1 ⟨⟨k2, rfl⟩, hw⟩; subst hw))
  obtain ⟨W3, hW3⟩ : ∃ W3, W3 = W1.alloc (.cells #[.int .i64 5, .int .i64 se, .int .i64 xi, .int .i64 0, .int .i64 0, .slice none 0 0, .slice none 0 0, .slice none 0 0, .bool false, .slice none 0 0] 30) := ⟨_, rfl⟩
  have b3 : Below W1.heap.size W1 W3 := by subst hW3; exact below_alloc1 _ _
  have kM : W3.heap[W1.heap.size]? = some (.cells #[.int .i64 5, .int .i64 se, .int .i64 xi, .int .i64 0, .int .i64 0, .slice none 0 0, .slice none 0 0, .slice none 0 0, .bool false, .slice none 0 0] 30 (0, 0)) := by subst hW3; exact at_new rfl
  replace kR := (b3.block _ (blk_lt kR)).trans kR
  replace kN := (b3.block _ (blk_lt kN)).trans kN
  have B3 : Below w.heap.size w W3 := Rw.next B1 b3
  rw [← hW3]
  clear hW3 b3 B1 g0 g1 hG hG4 hG8 h1 hlb hl0 hx hx1 z1 z2
  obtain ⟨gm, hgm⟩ : ∃ gm, gm = W1.heap.size := ⟨_, rfl⟩
  rw [← hgm] at hlt kM ⊢
  clear hgm
  obtain ⟨hd, hhd⟩ : ∃ hd, hd = (rdn l 12 1 == 1) := ⟨_, rfl⟩
  rw [← hhd] at HX
  have hl4 : l.length ≤ 4194304 := HRD.out.size
  have rd3 := HRD.out.below B3
  obtain ⟨y0, y1, y2, y3, y4, y5, y6, y7, y8, y9⟩ := Ga.ten kM
  have fM := Bl.free kM
  go_upto_region 35 with fail
  obtain ⟨W4, hW4⟩ : ∃ W4, W4 = W3.setCell ⟨gm, 8, none⟩ (.bool hd) := ⟨_, rfl⟩
  replace kM : W4.heap[gm]? = some (.cells #[.int .i64 5, .int .i64 se, .int .i64 xi, .int .i64 0, .int .i64 0, .slice none 0 0, .slice none 0 0, .slice none 0 0, .bool hd, .slice none 0 0] 30 (0, 0)) := by subst hW4; exact Ea.blk_same kM
  replace kR : W4.heap[w.heap.size]? = some (.cells #[.int .i64 0, .int .i64 0, .int .i64 0, .int .i64 0, .int .i64 0, .slice none 0 0, .slice none 0 0, .slice none 0 0, .bool false, .slice none 0 0] 30 (0, 0)) := by subst hW4; exact Ea.blk_other kR (by omega)
  replace kN : W4.heap[w.heap.size + 1]? = some (.cells #[.int .i64 0, .int .i64 0, .int .i64 0, .int .i64 0, .int .i64 0, .slice none 0 0, .slice none 0 0, .slice none 0 0, .bool false, .slice none 0 0] 30 (0, 0)) := by subst hW4; exact Ea.blk_other kN (by omega)
  have B4 : Below w.heap.size w W4 := by subst hW4; exact B3.setCell (by simp; omega) _
  go_cut [14] from 175 to 184 (fun i wx => wx = W4)
  case first =>
    by_cases h13 : 12 < l.length
    · have z13 : (12 : Int) < (l.length : Int) := by omega
      have g12 := rd3.cell 12 h13
      have e12 := hand_rdn h13 HRD.out.byt
      rw [e12] at hhd
      generalize l.getD 12 0 = q at *
      have hq : (q == 1) = hd := hhd.symm
      clear hhd
      go_wp2
      go_meet
      case rel => exact hW4.symm
    · have z13 : ¬ (12 : Int) < (l.length : Int) := by omega
      have e12 : rdn l 12 1 = 0 := by unfold rdn; rw [if_neg (by omega)]
      rw [e12] at hhd
      have hq : hd = false := hhd
      subst hq
      go_wp2
      go_meet
      case rel => exact hW4.symm
  case rest =>
    subst hcut
    clear hW4 B3 rd3 y0 y1 y2 y3 y4 y5 y6 y7 y8 y9 fM
    have lgm := Ea.blk_lt kM
    have HB : Hid (Byt l) := HRD.out.byt
    go_wp2
    go_loopw [14] (fun i wr => ∃ (j : Nat) (v : Value), j ≤ 8 ∧ i = .int .i64 j ∧ wr.heap[gm]? = some (.cells #[.int .i64 5, .int .i64 se, .int .i64 xi, .int .i64 0, .int .i64 0, .slice none 0 0, .slice none 0 0, .slice none 0 0, .bool hd, v] 30 (0, 0)) ∧ wr.heap[w.heap.size]? = some (.cells #[.int .i64 0, .int .i64 0, .int .i64 0, .int .i64 0, .int .i64 0, .slice none 0 0, .slice none 0 0, .slice none 0 0, .bool false, .slice none 0 0] 30 (0, 0)) ∧ wr.heap[w.heap.size + 1]? = some (.cells #[.int .i64 0, .int .i64 0, .int .i64 0, .int .i64 0, .int .i64 0, .slice none 0 0, .slice none 0 0, .slice none 0 0, .bool false, .slice none 0 0] 30 (0, 0)) ∧ ON wr (gm + 1) v ((Pm.lst (rH l 13)).take j) ∧ Below w.heap.size w wr) (fun i _ => 8 - (intOf i).toNat)
    case atStart => exact ⟨0, .slice none 0 0, by omega, rfl, kM, kR, kN, World.ownsRow_nil _ _ _ _, B4⟩
    case round =>
      clear kM kR kN B4 lgm
      obtain ⟨j, v, hj, rfl, kM, kR, kN, own, B⟩ := hrel
      by_cases hlt8 : j < 8
      · have hjz : (j : Int) < 8 := by omega
        have e1 : rdn l (13 + 6 * j) 6 = rH l 13 j := rfl
        have hg6 := sget (some ⟨b, off, none⟩) b off cap l (13 + 6 * j) 6 wr (HRD.out.below B) (by omega) (by omega)
        rw [e1] at hg6
        have ecast : (((13 + 6 * j : Nat) : Int)) = 13 + 6 * (j : Int) := by omega
        rw [ecast] at hg6
        have HT : Hid ((Pm.lst (rH l 13)).take (j + 1) = (Pm.lst (rH l 13)).take j ++ [rH l 13 j]) := lst_take hlt8
        have hln : ((Pm.lst (rH l 13)).take j).length ≤ 4194304 := by simp [Pm.lst_len]; omega
        have lgm := Ea.blk_lt kM
        have y9 := (Ga.ten kM).2.2.2.2.2.2.2.2.2
        have own1 := World.ownsRow.alloc own (.cells #[.int .i64 (rH l 13 j)] 3)
        clear e1 ecast hhd
        generalize rH l 13 j = q at *
        have eL : (List.take j (Pm.lst (rH l 13)) ++ [q]).length = j + 1 := by simp [Pm.lst_len]; omega
        go_wp2_with (first
          | (go_at_call 81; refine hg6.mono ?_; rintro e w1 ⟨⟨k3, rfl⟩, hw⟩; replace hw := hw.symm; subst hw)
          | (at_builtin; refine app_on rfl (.tmp 199) (.tmp 201) rfl (gm + 1) v _ q rfl own1 wr.heap.size 1 rfl (at_new rfl) hln (by simp; omega) ?_; intro v' w' own' hgr; obtain ⟨g', c', hv', hg', hl'⟩ := World.ownsRow.form own' (by simp); subst hv'; rw [eL] at own' ⊢; have kM' := (hgr.block gm (by simp; omega) (fun e => by have := (own1.lt gm e.symm).1; omega)).trans ((at_old lgm).trans kM); have kR' := (hgr.block w.heap.size (by have := Ea.blk_lt kR; simp; omega) (fun e => by have := (own1.lt _ e.symm).1; omega)).trans ((at_old (Ea.blk_lt kR)).trans kR); have kN' := (hgr.block (w.heap.size + 1) (by have := Ea.blk_lt kN; simp; omega) (fun e => by have := (own1.lt _ e.symm).1; omega)).trans ((at_old (Ea.blk_lt kN)).trans kN); have B' : Below w.heap.size w w' := (Rw.next B (below_alloc1 _ _)).grown hgr (by have := B.size; simp; omega) (fun k hk => by have := (own1.lt k hk).1; omega); have y9' := (Ga.ten kM').2.2.2.2.2.2.2.2.2; have f9' := Bl.free kM' 9))
        go_roundw
        case rel => exact ⟨j + 1, _, by omega, by go_num, Ea.blk_same kM', Ea.blk_other kR' (by omega), Ea.blk_other kN' (by omega), by rw [HT.out]; exact on_set own' (by simp), B'.setCell (by simp; omega) _⟩
        case measure => simp [intOf]; omega
      · have hj8 : j = 8 := by omega
        subst hj8
        have e8 : (Pm.lst (rH l 13)).take 8 = Pm.lst (rH l 13) := List.take_of_length_le (by rw [Pm.lst_len]; omega)
        rw [e8] at own
        have y9 := (Ga.ten kM).2.2.2.2.2.2.2.2.2
        go_upto_region 41 with fail
        clear y9 e8 hhd
        obtain ⟨aH, gH, cH, rfl, hgH, wtH, _⟩ := on_wt own (by rw [Pm.lst_len]; omega) (gm + 1) (Nat.le_refl _)
        have hwd : Po.Wide (Pm.lst (rH l 13)) := wide_lst HB.out
        generalize Pm.lst (rH l 13) = H at *
        obtain ⟨f, hf⟩ : ∃ f, f = headF se xi hd H aH gH cH := ⟨_, rfl⟩
        obtain ⟨okf, wtf, apf, uf⟩ := headF_ok (se := se) (xi := xi) (hd := hd) (cap := cH) wtH hwd (show gm < gH by omega)
        have sf : (headF se xi hd H aH gH cH).said = x := HX.out
        replace kM : wr.heap[gm]? = some (.cells (headF se xi hd H aH gH cH).vals 30 (0, 0)) := kM
        rw [← hf] at okf wtf apf uf sf kM
        clear hf HX own wtH hwd hgH
        obtain ⟨W5, hW5⟩ : ∃ W5, W5 = wr := ⟨_, rfl⟩
        rw [← hW5] at kM kR kN B okf wtf ⊢
        clear hW5
        have hS := Ja.bytesSp f W5 okf
        rw [sf] at hS
        simp only [Ga.msg_vals] at kM hS
        obtain ⟨y0, y1, y2, y3, y4, y5, y6, y7, y8, y9⟩ := Ga.ten kM
        have hl0 : w.heap.size < gm := by omega
        by_cases hL : Ja.writtenL x = l
        · have hB : Ga.msgB x = true := written_ok hL hl12
          obtain ⟨e1, e2⟩ := HY.out hL
          subst e1 e2
          rw [hB, hL] at hS
          have uu : ∀ y, Jm.Use4 f y → y ≠ w.heap.size := fun y hy => by have := uf y hy; omega
          clear hB hL HY HN
          go_wp2_with (first
            | (go_at_call 17; refine hS.mono ?_; rintro e w5 ⟨ga, gg, gc, rfl, gwt, glo, gnil, gcap, hb5⟩; replace kM := (hb5.block _ (Ea.blk_lt kM)).trans kM; replace kR := (hb5.block _ (Ea.blk_lt kR)).trans kR; replace B := Rw.next B hb5; replace okf := okf.below hb5; replace wtf := wtf.below hb5; clear hS gnil gcap hb5 glo y0 y1 y2 y3 y4 y5 y6 y7 y8 y9; have rd5 := HRD.out.below B)
            | (go_at_call 97; refine (same_any _ _ _ _ _ _ _ _ _ _ _ gwt.rd rd5).mono ?_; rw [decide_eq_true rfl]; rintro e w6 ⟨rfl, hw⟩; replace hw := hw.symm; subst hw; obtain ⟨y0, y1, y2, y3, y4, y5, y6, y7, y8, y9⟩ := Ga.ten kM; obtain ⟨r0, r1, r2, r3, r4, r5, r6, r7, r8, r9⟩ := Ga.ten kR; have fR := Bl.free kR))
          have on5 := ((((((((((Only.refl w.heap.size w5).set (o := 0) (.int .i64 f.kd)).set (o := 1) (.int .i64 f.se)).set (o := 2) (.int .i64 f.xi)).set (o := 3) (.int .i64 f.e.ep)).set (o := 4) (.int .i64 f.e.pr)).set (o := 5) (.slice f.e.aV f.e.V.length f.e.cV)).set (o := 6) (.slice f.e.aM f.e.M.length f.e.cM)).set (o := 7) (.slice f.e.aA f.e.A.length f.e.cA)).set (o := 8) (.bool f.hd)).set (o := 9) (.slice f.aH f.H.length f.cH)
          refine bodyPost_ret (v := .tuple #[.agg f.vals, .int .i64 0]) (by simp [results, Try.results29, go_sem, r0, r1, r2, r3, r4, r5, r6, r7, r8, r9, Ga.msg_vals]) rfl ⟨f, rfl, sf, ok_only okf on5 uu, wtm_only wtf on5 uu, apf, fun y hy => (by have := uf y hy; omega), ?_⟩
          exact on5.below B B.size (Nat.le_refl _)
        · obtain ⟨e1, e2⟩ := HN.out hL
          subst e1 e2
          have HL : Hid (¬ Ja.writtenL x = l) := hL
          clear hL wtf apf uf HY HN
          cases hB : Ga.msgB x with
          | true =>
            rw [hB] at hS
            go_wp2_with (first
              | (go_at_call 17; refine hS.mono ?_; rintro e w5 ⟨ga, gg, gc, rfl, gwt, glo, gnil, gcap, hb5⟩; replace kN := (hb5.block _ (Ea.blk_lt kN)).trans kN; replace kR := (hb5.block _ (Ea.blk_lt kR)).trans kR; replace B := Rw.next B hb5; clear hS gnil gcap hb5 glo y0 y1 y2 y3 y4 y5 y6 y7 y8 y9; have rd5 := HRD.out.below B)
              | (go_at_call 97; refine (same_any _ _ _ _ _ _ _ _ _ _ _ gwt.rd rd5).mono ?_; rw [decide_eq_false HL.out]; rintro e w6 ⟨rfl, hw⟩; replace hw := hw.symm; subst hw; obtain ⟨y0, y1, y2, y3, y4, y5, y6, y7, y8, y9⟩ := Ga.ten kN; obtain ⟨r0, r1, r2, r3, r4, r5, r6, r7, r8, r9⟩ := Ga.ten kR; have fR := Bl.free kR))
            refine bodyPost_ret (v := .tuple #[.agg #[.int .i64 0, .int .i64 0, .int .i64 0, .int .i64 0, .int .i64 0, .slice none 0 0, .slice none 0 0, .slice none 0 0, .bool false, .slice none 0 0], .int .i64 5]) (by simp [results, Try.results29, go_sem, r0, r1, r2, r3, r4, r5, r6, r7, r8, r9]) rfl ?_
            refine resF_no 5 ?_
            refine Only.below (g := w.heap.size) ?_ B B.size (Nat.le_refl _)
            repeat (first | with_reducible exact Only.refl _ _ | refine Only.set ?_ _)
          | false =>
            rw [hB] at hS
            go_wp2_with (go_at_call 17; refine hS.mono ?_; rintro e w5 ⟨ga, gg, gc, rfl, gwt, glo, gnil, gcap, hb5⟩; replace kN := (hb5.block _ (Ea.blk_lt kN)).trans kN; replace kR := (hb5.block _ (Ea.blk_lt kR)).trans kR; replace B := Rw.next B hb5; clear hS gnil gcap hb5 glo y0 y1 y2 y3 y4 y5 y6 y7 y8 y9; obtain ⟨y0, y1, y2, y3, y4, y5, y6, y7, y8, y9⟩ := Ga.ten kN; obtain ⟨r0, r1, r2, r3, r4, r5, r6, r7, r8, r9⟩ := Ga.ten kR; have fR := Bl.free kR)
            refine bodyPost_ret (v := .tuple #[.agg #[.int .i64 0, .int .i64 0, .int .i64 0, .int .i64 0, .int .i64 0, .slice none 0 0, .slice none 0 0, .slice none 0 0, .bool false, .slice none 0 0], .int .i64 5]) (by simp [results, Try.results29, go_sem, r0, r1, r2, r3, r4, r5, r6, r7, r8, r9]) rfl ?_
            refine resF_no 5 ?_
            refine Only.below (g := w.heap.size) ?_ B B.size (Nat.le_refl _)
            repeat (first | with_reducible exact Only.refl _ _ | refine Only.set ?_ _)

end Go.Proofs.Ytcbhpmgjmpbpmaa.Wj
namespace Go.Proofs.Ytcbhpmgjmpbpmaa.Wj
open Go Go.RowKit
set_option maxRecDepth 8000
set_option linter.unusedSimpArgs false
set_option linter.unusedVariables false
open Num Pl Rw Mk Un Put App Ea Pr Wa

set_option maxHeartbeats 4000000 in
theorem sread6 (a : Option Addr) (b off cap : Nat) (l : List Int) (w : World) (h : Rd w a b off l) (hc : code l = 0) (hk : l.getD 1 0 = 6) (x X : Ga.Said) (C : Int) (HX : Hid ((6, rdn l 4 4, rdn l 8 4, (0, 0, [], [], [], 0), false, []) = x))
    (hy : Ja.writtenL x = l → X = x ∧ C = 0) (hn : ¬ Ja.writtenL x = l → X = said0 ∧ C = 5) :
    Calls Try.prog 29 #[.slice a l.length cap] w (ResF w X C) := by
  have HY : Hid (Ja.writtenL x = l → X = x ∧ C = 0) := hy
  have HN : Hid (¬ Ja.writtenL x = l → X = said0 ∧ C = 5) := hn
  clear hy hn
  obtain ⟨W1, hW1⟩ : ∃ W1, W1 = (w.alloc (.cells #[.int .i64 0, .int .i64 0, .int .i64 0, .int .i64 0, .int .i64 0, .slice none 0 0, .slice none 0 0, .slice none 0 0, .bool false, .slice none 0 0] 30)).alloc (.cells #[.int .i64 0, .int .i64 0, .int .i64 0, .int .i64 0, .int .i64 0, .slice none 0 0, .slice none 0 0, .slice none 0 0, .bool false, .slice none 0 0] 30) := ⟨_, rfl⟩
  have B1 : Below w.heap.size w W1 := by subst hW1; exact Rw.next (below_alloc1 _ _) (below_alloc1 _ _)
  have kR : W1.heap[w.heap.size]? = some (.cells #[.int .i64 0, .int .i64 0, .int .i64 0, .int .i64 0, .int .i64 0, .slice none 0 0, .slice none 0 0, .slice none 0 0, .bool false, .slice none 0 0] 30 (0, 0)) := by subst hW1; rw [at_old (by simp), at_new rfl]
  have kN : W1.heap[w.heap.size + 1]? = some (.cells #[.int .i64 0, .int .i64 0, .int .i64 0, .int .i64 0, .int .i64 0, .slice none 0 0, .slice none 0 0, .slice none 0 0, .bool false, .slice none 0 0] 30 (0, 0)) := by subst hW1; exact at_new (by simp)
  have h1 := h.below B1
  have hlt := blk_lt kN
  obtain ⟨c1, c2, c3, c4⟩ := code_zero hc
  have z1 : ¬ (l.length : Int) < 12 := by omega
  have z2 : ¬ (300 : Int) < (l.length : Int) := by omega
  obtain rfl := h1.head (by omega)
  have g0 := h1.cell 0 (by omega)
  simp only [Nat.add_zero, c2] at g0
  have g1 := h1.cell 1 (by omega)
  rw [hk] at g1
  have hG := fun W hh => sget (some ⟨b, off, none⟩) b off cap l 2 2 W hh (by omega) (by omega)
  have hG4 := fun W hh => sget (some ⟨b, off, none⟩) b off cap l 4 4 W hh (by omega) (by omega)
  have hG8 := fun W hh => sget (some ⟨b, off, none⟩) b off cap l 8 4 W hh (by omega) (by omega)
  rw [told_rdn h.byt (by omega), c3] at hG
  have hx : (0 : Int) < (l.length : Int) := by omega
  have hx1 : (1 : Int) < (l.length : Int) := by omega
  have hl12 : 12 ≤ l.length := by omega
  have HRD : Hid (Rd w (some ⟨b, off, none⟩) b off l) := h
  clear c1 c2 c3 c4 hc h
  generalize rdn l 4 4 = se at *
  generalize rdn l 8 4 = xi at *
  have t4 : True := trivial
  have t8 : True := trivial
  have hl0 : w.heap.size < W1.heap.size := by omega
  have hlb : b < W1.heap.size := World.block_lt_of_cell? _ _ g1
  go_enter Try.func29, Try.ntmps29
  go_upto_region 4 with fail
  rw [← hW1]
  clear hW1
  go_upto_region 14 with (first
    | (go_at_call 81; clear t4; refine (hG _ h1).mono ?_; rintro e w1 ⟨⟨k0, rfl⟩, hw⟩; replace hw := hw.symm; subst hw)
    | (go_at_call 81; clear t8; refine (hG4 _ (h1.below (below_alloc1 _ _))).mono ?_; rintro e w1 ⟨⟨k1, rfl⟩, hw⟩; subst hw)
    | (go_at_call 81; refine (hG8 _ (h1.below (below_alloc1 _ _))).mono ?_; rintro e w1 ⟨⟨k2, rfl⟩, hw⟩; subst hw))
  obtain ⟨W3, hW3⟩ : ∃ W3, W3 = W1.alloc (.cells #[.int .i64 6, .int .i64 se, .int .i64 xi, .int .i64 0, .int .i64 0, .slice none 0 0, .slice none 0 0, .slice none 0 0, .bool false, .slice none 0 0] 30) := ⟨_, rfl⟩
  have b3 : Below W1.heap.size W1 W3 := by subst hW3; exact below_alloc1 _ _
  have kM : W3.heap[W1.heap.size]? = some (.cells #[.int .i64 6, .int .i64 se, .int .i64 xi, .int .i64 0, .int .i64 0, .slice none 0 0, .slice none 0 0, .slice none 0 0, .bool false, .slice none 0 0] 30 (0, 0)) := by subst hW3; exact at_new rfl
  replace kR := (b3.block _ (blk_lt kR)).trans kR
  replace kN := (b3.block _ (blk_lt kN)).trans kN
  have B3 : Below w.heap.size w W3 := Rw.next B1 b3
  rw [← hW3]
  clear hW3 b3 B1 g0 g1 hG hG4 hG8 h1 hlb hl0 hx hx1 z1 z2
  obtain ⟨gm, hgm⟩ : ∃ gm, gm = W1.heap.size := ⟨_, rfl⟩
  rw [← hgm] at hlt kM ⊢
  clear hgm
  obtain ⟨y0, y1, y2, y3, y4, y5, y6, y7, y8, y9⟩ := Ga.ten kM
  go_upto_region 41 with fail
  clear y0 y1 y2 y3 y4 y5 y6 y7 y8 y9
  have B := B3
  obtain ⟨W5, hW5⟩ : ∃ W5, W5 = W3 := ⟨_, rfl⟩
  rw [← hW5] at kM kR kN B ⊢
  clear hW5 B3
  obtain ⟨f, hf⟩ : ∃ f, f = nilF 6 se xi 0 gm := ⟨_, rfl⟩
  obtain ⟨okf, wtf, apf, uf⟩ := nilF_ok 6 se xi 0 gm W5
  have sf : (nilF 6 se xi 0 gm).said = x := HX.out
  replace kM : W5.heap[gm]? = some (.cells (nilF 6 se xi 0 gm).vals 30 (0, 0)) := kM
  rw [← hf] at okf wtf apf uf sf kM
  clear hf HX
  have hS := Ja.bytesSp f W5 okf
  rw [sf] at hS
  simp only [Ga.msg_vals] at kM hS
  obtain ⟨y0, y1, y2, y3, y4, y5, y6, y7, y8, y9⟩ := Ga.ten kM
  have hl0 : w.heap.size < gm := by omega
  by_cases hL : Ja.writtenL x = l
  · have hB : Ga.msgB x = true := written_ok hL hl12
    obtain ⟨e1, e2⟩ := HY.out hL
    subst e1 e2
    rw [hB, hL] at hS
    have uu : ∀ y, Jm.Use4 f y → y ≠ w.heap.size := fun y hy => by have := uf y hy; omega
    clear hB hL HY HN
    go_wp2_with (first
      | (go_at_call 17; refine hS.mono ?_; rintro e w5 ⟨ga, gg, gc, rfl, gwt, glo, gnil, gcap, hb5⟩; replace kM := (hb5.block _ (Ea.blk_lt kM)).trans kM; replace kR := (hb5.block _ (Ea.blk_lt kR)).trans kR; replace B := Rw.next B hb5; replace okf := okf.below hb5; replace wtf := wtf.below hb5; clear hS gnil gcap hb5 glo y0 y1 y2 y3 y4 y5 y6 y7 y8 y9; have rd5 := HRD.out.below B)
      | (go_at_call 97; refine (same_any _ _ _ _ _ _ _ _ _ _ _ gwt.rd rd5).mono ?_; rw [decide_eq_true rfl]; rintro e w6 ⟨rfl, hw⟩; replace hw := hw.symm; subst hw; obtain ⟨y0, y1, y2, y3, y4, y5, y6, y7, y8, y9⟩ := Ga.ten kM; obtain ⟨r0, r1, r2, r3, r4, r5, r6, r7, r8, r9⟩ := Ga.ten kR; have fR := Bl.free kR))
    have on5 := ((((((((((Only.refl w.heap.size w5).set (o := 0) (.int .i64 f.kd)).set (o := 1) (.int .i64 f.se)).set (o := 2) (.int .i64 f.xi)).set (o := 3) (.int .i64 f.e.ep)).set (o := 4) (.int .i64 f.e.pr)).set (o := 5) (.slice f.e.aV f.e.V.length f.e.cV)).set (o := 6) (.slice f.e.aM f.e.M.length f.e.cM)).set (o := 7) (.slice f.e.aA f.e.A.length f.e.cA)).set (o := 8) (.bool f.hd)).set (o := 9) (.slice f.aH f.H.length f.cH)
    refine bodyPost_ret (v := .tuple #[.agg f.vals, .int .i64 0]) (by simp [results, Try.results29, go_sem, r0, r1, r2, r3, r4, r5, r6, r7, r8, r9, Ga.msg_vals]) rfl ⟨f, rfl, sf, ok_only okf on5 uu, wtm_only wtf on5 uu, apf, fun y hy => (by have := uf y hy; omega), ?_⟩
    exact on5.below B B.size (Nat.le_refl _)
  · obtain ⟨e1, e2⟩ := HN.out hL
    subst e1 e2
    have HL : Hid (¬ Ja.writtenL x = l) := hL
    clear hL wtf apf uf HY HN
    cases hB : Ga.msgB x with
    | true =>
      rw [hB] at hS
      go_wp2_with (first
        | (go_at_call 17; refine hS.mono ?_; rintro e w5 ⟨ga, gg, gc, rfl, gwt, glo, gnil, gcap, hb5⟩; replace kN := (hb5.block _ (Ea.blk_lt kN)).trans kN; replace kR := (hb5.block _ (Ea.blk_lt kR)).trans kR; replace B := Rw.next B hb5; clear hS gnil gcap hb5 glo y0 y1 y2 y3 y4 y5 y6 y7 y8 y9; have rd5 := HRD.out.below B)
        | (go_at_call 97; refine (same_any _ _ _ _ _ _ _ _ _ _ _ gwt.rd rd5).mono ?_; rw [decide_eq_false HL.out]; rintro e w6 ⟨rfl, hw⟩; replace hw := hw.symm; subst hw; obtain ⟨y0, y1, y2, y3, y4, y5, y6, y7, y8, y9⟩ := Ga.ten kN; obtain ⟨r0, r1, r2, r3, r4, r5, r6, r7, r8, r9⟩ := Ga.ten kR; have fR := Bl.free kR))
      refine bodyPost_ret (v := .tuple #[.agg #[.int .i64 0, .int .i64 0, .int .i64 0, .int .i64 0, .int .i64 0, .slice none 0 0, .slice none 0 0, .slice none 0 0, .bool false, .slice none 0 0], .int .i64 5]) (by simp [results, Try.results29, go_sem, r0, r1, r2, r3, r4, r5, r6, r7, r8, r9]) rfl ?_
      refine resF_no 5 ?_
      refine Only.below (g := w.heap.size) ?_ B B.size (Nat.le_refl _)
      repeat (first | with_reducible exact Only.refl _ _ | refine Only.set ?_ _)
    | false =>
      rw [hB] at hS
      go_wp2_with (go_at_call 17; refine hS.mono ?_; rintro e w5 ⟨ga, gg, gc, rfl, gwt, glo, gnil, gcap, hb5⟩; replace kN := (hb5.block _ (Ea.blk_lt kN)).trans kN; replace kR := (hb5.block _ (Ea.blk_lt kR)).trans kR; replace B := Rw.next B hb5; clear hS gnil gcap hb5 glo y0 y1 y2 y3 y4 y5 y6 y7 y8 y9; obtain ⟨y0, y1, y2, y3, y4, y5, y6, y7, y8, y9⟩ := Ga.ten kN; obtain ⟨r0, r1, r2, r3, r4, r5, r6, r7, r8, r9⟩ := Ga.ten kR; have fR := Bl.free kR)
      refine bodyPost_ret (v := .tuple #[.agg #[.int .i64 0, .int .i64 0, .int .i64 0, .int .i64 0, .int .i64 0, .slice none 0 0, .slice none 0 0, .slice none 0 0, .bool false, .slice none 0 0], .int .i64 5]) (by simp [results, Try.results29, go_sem, r0, r1, r2, r3, r4, r5, r6, r7, r8, r9]) rfl ?_
      refine resF_no 5 ?_
      refine Only.below (g := w.heap.size) ?_ B B.size (Nat.le_refl _)
      repeat (first | with_reducible exact Only.refl _ _ | refine Only.set ?_ _)

end Go.Proofs.Ytcbhpmgjmpbpmaa.Wj
namespace Go.Proofs.Ytcbhpmgjmpbpmaa.Wj
open Go Go.RowKit
set_option maxRecDepth 8000
set_option linter.unusedSimpArgs false
set_option linter.unusedVariables false
open Num Pl Rw Mk Un Put App Ea Pr Wa

theorem acts_len {A : List Yb.A3} (h : Yd.actsB A = true) : A.length ≤ 12 := by
  unfold Yd.actsB at h
  simp only [Bool.and_eq_true, decide_eq_true_eq] at h
  omega
theorem kd_rdn {l : List Int} (h : 12 ≤ l.length) : rdn l 1 1 = l.getD 1 0 := by
  unfold rdn
  rw [if_pos (by omega)]
  simp [Get.acc]
theorem readL_zero {l : List Int} (hc : code l = 0) : readL l = if Ja.writtenL (xI l) = l then (xI l, 0) else (said0, 5) := by
  unfold readL
  rw [if_neg (by simpa using hc)]

theorem sread_any (a : Option Addr) (b off cap : Nat) (l : List Int) (w : World) (h : Rd w a b off l) :
    Calls Try.prog 29 #[.slice a l.length cap] w (ResF w (readL l).1 (readL l).2) := by
  by_cases hc : code l = 0
  · have hz := code_zero hc
    have h12 := hz.1.1
    have hk := kd_rdn h12
    have hr := readL_zero hc
    -- where the message that is read is the program's
    have same : ∀ x, x = xI l → (Ja.writtenL x = l → (readL l).1 = x ∧ (readL l).2 = 0) ∧ (¬ Ja.writtenL x = l → (readL l).1 = said0 ∧ (readL l).2 = 5) := by
      rintro x rfl
      constructor
      · intro e; rw [hr, if_pos e]; exact ⟨rfl, rfl⟩
      · intro e; rw [hr, if_neg e]; exact ⟨rfl, rfl⟩
    have hq : l.getD 1 0 = 1 ∨ l.getD 1 0 = 2 ∨ l.getD 1 0 = 3 ∨ l.getD 1 0 = 4 ∨ l.getD 1 0 = 5 ∨ l.getD 1 0 = 6 := by omega
    rcases hq with e | e | e | e | e | e
    · have ex : (1, rdn l 4 4, rdn l 8 4, (0, 0, [], [], [], 0), false, []) = xI l := by unfold xI; rw [hk, e]; rfl
      exact sread1 a b off cap l w h hc e _ _ _ (show Hid (_ = xI l) from ex) (same _ rfl).1 (same _ rfl).2
    · obtain ⟨n, hn⟩ := Int.eq_ofNat_of_zero_le (rdn_bd h.byt 114 1).1
      have ex : xI l = (2, rdn l 4 4, rdn l 8 4, (rdn l 12 4, rdn l 16 2, Pm.lst (rV l 18), Pm.lst (rM l 18), rA l 115 n, 0), false, []) := by unfold xI; rw [hk, e, hn]; rfl
      by_cases h13 : n ≤ 13
      · have em : min n 13 = n := by omega
        refine sread2 a b off cap l w h hc e n hn.symm (xI l) _ _ ?_ (same _ rfl).1 (same _ rfl).2
        show Hid (_ = xI l)
        rw [ex, em]; exact rfl
      · refine sread2 a b off cap l w h hc e n hn.symm _ _ _ (show Hid (_ = _) from rfl) ?_ ?_
        · intro hw
          have hB := written_ok hw h12
          have := acts_len ((Ja.fit_of hB).add rfl).2.2.2
          simp only [rA_len] at this
          omega
        · intro _
          refine (same _ rfl).2 fun hw => ?_
          have hB := written_ok hw h12
          rw [ex] at hB
          have := acts_len ((Ja.fit_of hB).add rfl).2.2.2
          simp only [rA_len] at this
          omega
    · have ex : (3, rdn l 4 4, rdn l 8 4, (rdn l 12 4, 0, [], [], [], 0), false, []) = xI l := by unfold xI; rw [hk, e]; rfl
      exact sread3 a b off cap l w h hc e _ _ _ (show Hid (_ = xI l) from ex) (same _ rfl).1 (same _ rfl).2
    · have ex : (4, rdn l 4 4, rdn l 8 4, (0, 0, [], [], [], 0), false, []) = xI l := by unfold xI; rw [hk, e]; rfl
      exact sread4 a b off cap l w h hc e _ _ _ (show Hid (_ = xI l) from ex) (same _ rfl).1 (same _ rfl).2
    · have ex : (5, rdn l 4 4, rdn l 8 4, (0, 0, [], [], [], 0), rdn l 12 1 == 1, Pm.lst (rH l 13)) = xI l := by unfold xI; rw [hk, e]; rfl
      exact sread5 a b off cap l w h hc e _ _ _ (show Hid (_ = xI l) from ex) (same _ rfl).1 (same _ rfl).2
    · have ex : (6, rdn l 4 4, rdn l 8 4, (0, 0, [], [], [], 0), false, []) = xI l := by unfold xI; rw [hk, e]; rfl
      exact sread6 a b off cap l w h hc e _ _ _ (show Hid (_ = xI l) from ex) (same _ rfl).1 (same _ rfl).2
  · have e : readL l = (said0, code l) := by unfold readL; rw [if_pos (by simpa using hc)]
    rw [e]
    exact sread_no a b off cap l w h hc

end Go.Proofs.Ytcbhpmgjmpbpmaa.Wj
namespace Go.Proofs.Ytcbhpmgjmpbpmaa.Wj
open Go Go.RowKit
set_option maxRecDepth 8000
set_option linter.unusedSimpArgs false
set_option linter.unusedVariables false
open Num Pl Rw Mk Un Put App Ea Pr Wa

def rebl (f : Ga.Msg) (v m a h : Nat) : Ga.Msg := { f with e := { f.e with bV := if f.e.V.length = 0 then v else f.e.bV, bM := if f.e.M.length = 0 then m else f.e.bM, bA := if f.e.A.length = 0 then a else f.e.bA }, bH := if f.H.length = 0 then h else f.bH }
theorem rebl_vals (f : Ga.Msg) (v m a h : Nat) : (rebl f v m a h).vals = f.vals := rfl
theorem rebl_said (f : Ga.Msg) (v m a h : Nat) : (rebl f v m a h).said = f.said := rfl
theorem rdi {w : World} {a : Option Addr} {b x off : Nat} {l : List Int} (h : Hr.Rd w a b off l) : Hr.Rd w a (if l.length = 0 then x else b) off l := by
  split
  · next e => exact ⟨fun h => by omega, fun i h => by omega, by omega⟩
  · exact h
theorem rda {w : World} {a : Option Addr} {b x off : Nat} {l : List Yb.A3} (h : Yb.Rd w a b off l) : Yb.Rd w a (if l.length = 0 then x else b) off l := by
  split
  · next e => exact ⟨fun h => by omega, fun i h => by omega, by omega⟩
  · exact h
theorem wti {w : World} {a : Option Addr} {b x : Nat} {l : List Int} (h : Hr.Wt w a b l) : Hr.Wt w a (if l.length = 0 then x else b) l := by
  split
  · next e => exact ⟨fun h => by omega, fun i h => by omega, fun i h => by omega, by omega⟩
  · exact h
theorem wta {w : World} {a : Option Addr} {b x : Nat} {l : List Yb.A3} (h : Em.WtA w a b l) : Em.WtA w a (if l.length = 0 then x else b) l := by
  split
  · next e => exact ⟨fun h => by omega, fun i h => by omega, fun i h => by omega, by omega⟩
  · exact h
theorem rebl_ok {w : World} {f : Ga.Msg} (o : f.Ok w) (v m a h : Nat) : (rebl f v m a h).Ok w := ⟨⟨rdi o.e.rV, rdi o.e.rM, rda o.e.rA, o.e.wV, o.e.wM⟩, o.z, rdi o.rH, o.wH⟩
theorem rebl_wt {w : World} {f : Ga.Msg} (o : Jm.WtM w f) (v m a h : Nat) : Jm.WtM w (rebl f v m a h) := ⟨wti o.wV, wti o.wM, wta o.wA, wti o.wH⟩
theorem rebl_use {w : World} {f : Ga.Msg} (o : f.Ok w) {v m a h y : Nat} (hy : Jm.Use4 (rebl f v m a h) y) : (Jm.Use4 f y ∧ y < w.heap.size) ∨ y = v ∨ y = m ∨ y = a ∨ y = h := by
  rcases hy with rfl | rfl | rfl | rfl
  · show _ ∨ (if f.e.V.length = 0 then v else f.e.bV) = v ∨ _
    by_cases e : f.e.V.length = 0
    · right; left; rw [if_pos e]
    · left
      show Jm.Use4 f (if f.e.V.length = 0 then v else f.e.bV) ∧ (if f.e.V.length = 0 then v else f.e.bV) < w.heap.size
      rw [if_neg e]; exact ⟨.inl rfl, (Hr.rd_lt o.e.rV).resolve_left e⟩
  · by_cases e : f.e.M.length = 0
    · right; right; left
      show (if f.e.M.length = 0 then m else f.e.bM) = m
      rw [if_pos e]
    · left
      show Jm.Use4 f (if f.e.M.length = 0 then m else f.e.bM) ∧ (if f.e.M.length = 0 then m else f.e.bM) < w.heap.size
      rw [if_neg e]; exact ⟨.inr (.inl rfl), (Hr.rd_lt o.e.rM).resolve_left e⟩
  · by_cases e : f.e.A.length = 0
    · right; right; right; left
      show (if f.e.A.length = 0 then a else f.e.bA) = a
      rw [if_pos e]
    · left
      show Jm.Use4 f (if f.e.A.length = 0 then a else f.e.bA) ∧ (if f.e.A.length = 0 then a else f.e.bA) < w.heap.size
      rw [if_neg e]; exact ⟨.inr (.inr (.inl rfl)), (Yb.rd_lt o.e.rA).resolve_left e⟩
  · by_cases e : f.H.length = 0
    · right; right; right; right
      show (if f.H.length = 0 then h else f.bH) = h
      rw [if_pos e]
    · left
      show Jm.Use4 f (if f.H.length = 0 then h else f.bH) ∧ (if f.H.length = 0 then h else f.bH) < w.heap.size
      rw [if_neg e]; exact ⟨.inr (.inr (.inr rfl)), (Hr.rd_lt o.rH).resolve_left e⟩
/-- Its empty lists lie low: all that it uses is there. -/
theorem low_msg {w : World} {f : Ga.Msg} (o : f.Ok w) (hpos : 0 < w.heap.size) : ∃ f' : Ga.Msg, f'.vals = f.vals ∧ f'.said = f.said ∧ f'.Ok w ∧ ∀ y, Jm.Use4 f' y → y < w.heap.size := by
  refine ⟨rebl f 0 0 0 0, rfl, rfl, rebl_ok o _ _ _ _, fun y hy => ?_⟩
  rcases rebl_use o hy with h | h | h | h | h
  · exact h.2
  all_goals omega
/-- Its empty lists lie high: behind the next block. -/
theorem high_msg {w : World} {f : Ga.Msg} (o : f.Ok w) (wt : Jm.WtM w f) (ap : Jm.Ap4 f) : ∃ f' : Ga.Msg, f'.vals = f.vals ∧ f'.said = f.said ∧ f'.Ok w ∧ Jm.WtM w f' ∧ Jm.Ap4 f' ∧ ∀ y, Jm.Use4 f' y → (Jm.Use4 f y ∧ y < w.heap.size) ∨ w.heap.size < y := by
  refine ⟨rebl f (w.heap.size + 1) (w.heap.size + 2) (w.heap.size + 3) (w.heap.size + 4), rfl, rfl, rebl_ok o _ _ _ _, rebl_wt wt _ _ _ _, ?_, fun y hy => ?_⟩
  · have l1 : f.e.V.length = 0 ∨ f.e.bV < w.heap.size := Hr.rd_lt o.e.rV
    have l2 : f.e.M.length = 0 ∨ f.e.bM < w.heap.size := Hr.rd_lt o.e.rM
    have l3 : f.e.A.length = 0 ∨ f.e.bA < w.heap.size := Yb.rd_lt o.e.rA
    have l4 : f.H.length = 0 ∨ f.bH < w.heap.size := Hr.rd_lt o.rH
    obtain ⟨d1, d2, d3, d4, d5, d6⟩ := ap
    have q1 : (if f.e.V.length = 0 then w.heap.size + 1 else f.e.bV) = w.heap.size + 1 ∨ ((if f.e.V.length = 0 then w.heap.size + 1 else f.e.bV) = f.e.bV ∧ f.e.bV < w.heap.size) := by split <;> omega
    have q2 : (if f.e.M.length = 0 then w.heap.size + 2 else f.e.bM) = w.heap.size + 2 ∨ ((if f.e.M.length = 0 then w.heap.size + 2 else f.e.bM) = f.e.bM ∧ f.e.bM < w.heap.size) := by split <;> omega
    have q3 : (if f.e.A.length = 0 then w.heap.size + 3 else f.e.bA) = w.heap.size + 3 ∨ ((if f.e.A.length = 0 then w.heap.size + 3 else f.e.bA) = f.e.bA ∧ f.e.bA < w.heap.size) := by split <;> omega
    have q4 : (if f.H.length = 0 then w.heap.size + 4 else f.bH) = w.heap.size + 4 ∨ ((if f.H.length = 0 then w.heap.size + 4 else f.bH) = f.bH ∧ f.bH < w.heap.size) := by split <;> omega
    exact ⟨by simp only [rebl]; omega, by simp only [rebl]; omega, by simp only [rebl]; omega, by simp only [rebl]; omega, by simp only [rebl]; omega, by simp only [rebl]; omega⟩
  · rcases rebl_use o hy with h | h | h | h | h
    · exact .inl h
    all_goals (right; omega)
theorem ok_keepM {w w' : World} {f : Ga.Msg} (o : f.Ok w) (hk : ∀ x, Jm.Use4 f x → x < w.heap.size → w'.heap[x]? = w.heap[x]?) : f.Ok w' :=
  ⟨Sm.ok_keep o.e (fun x hx hl => hk x (by rcases hx with hx | hx | hx; exact .inl hx; exact .inr (.inl hx); exact .inr (.inr (.inl hx))) hl), o.z,
   ⟨o.rH.head, fun i hi => (World.cell?_of_block (hk _ (.inr (.inr (.inr rfl))) (World.block_lt_of_cell? _ _ (o.rH.cell i hi)))).trans (o.rH.cell i hi), o.rH.size⟩, o.wH⟩

end Go.Proofs.Ytcbhpmgjmpbpmaa.Wj
