/-
  Marks over what is sent and over actions, and whether they hold.
-/
import Derived.Test.YtkakdldhinimoaaYo
namespace Go.Proofs.Ytkakdldhinimoaa.Yp
set_option maxRecDepth 8000
set_option linter.unusedSimpArgs false
set_option linter.unusedVariables false
open Go Go.RowKit
open Num Pl Hr Hh Pq Ht Yh Yj Yk Yl Ym Yb Yc Yd Yo

set_option maxHeartbeats 2000000 in
theorem markActS_any (k0 : Int) (h0 : 0 ≤ k0) (h1 : k0 ≤ 1000000000000) (g cap : Nat) (l : List A3) (w : World) (h : Yb.Mine w g l) :
    Calls Try.prog 33 #[.slice (some ⟨g, 0, none⟩) l.length cap, .int .i64 k0] w fun e w' => e = .returned (.int .i64 (k0 + 3 * (l.length : Int))) ∧ Mk.Only g w w' := by
  obtain ⟨hrow, hs⟩ := h
  obtain ⟨n, hn⟩ : ∃ n, n = l.length := ⟨_, rfl⟩
  rw [← hn] at hrow hs ⊢
  have HR : Hid (∃ f, w.rowIs g 76 (n * 3) f) := ⟨_, hrow⟩
  clear hrow hn
  go_enter Try.func33, Try.ntmps33
  go_wp2
  go_loopw [1, 5] (fun q i wr => ∃ k : Nat, k ≤ n ∧ i = .int .i64 k ∧ q = .int .i64 (k0 + 3 * (k : Int)) ∧ Mk.Only g w wr ∧ ∃ f, wr.rowIs g 76 (n * 3) f) (fun _ i _ => n - (intOf i).toNat)
  case atStart => exact ⟨0, Nat.zero_le _, rfl, by simp, Mk.Only.refl _ _, HR.out⟩
  case round =>
    obtain ⟨k, hk, rfl, rfl, hon, f, hrow⟩ := hrel
    by_cases hlt : k < n
    · have hkz : (k : Int) < (n : Int) := by omega
      have g0 := hrow.cell (i := k * 3) (by omega)
      have g1 := hrow.cell (i := k * 3 + 1) (by omega)
      have g2 := hrow.cell (i := k * 3 + 2) (by omega)
      have f0 := hrow.frozen (k * 3)
      have f1 := hrow.frozen (k * 3 + 1)
      have f2 := hrow.frozen (k * 3 + 2)
      clear HR
      go_wp2
      go_roundw
      case rel => exact ⟨k + 1, by omega, by go_num, by simp only [Value.int.injEq, true_and]; omega, ((hon.set _).set _).set _, _, ((hrow.set _ _).set _ _).set _ _⟩
      case measure => simp [intOf]; omega
    · have he : k = n := by omega
      subst he
      go_wp2
      go_ret
      exact ⟨rfl, hon⟩

/-- What is sent, the first j marked. -/
structure Md (w : World) (g : Nat) (Q : List E) (j : Nat) : Prop where
  blk : 0 < Q.length → ∃ cur, w.heap[g]? = some (Obj.cells cur 56 (0, 0))
  port : ∀ i, i < Q.length → w.cell? ⟨g, i * 2, none⟩ = some (.int .i64 (if i < j then 1 + 9 * (i : Int) else (Q.getD i e0).p))
  hd : ∀ i, i < Q.length → w.cell? ⟨g, i * 2 + 1, none⟩ = some (.slice (some ⟨(Q.getD i e0).g, 0, none⟩) 8 (Q.getD i e0).c)
  own : ∀ i, i < Q.length → Wt w (some ⟨(Q.getD i e0).g, 0, none⟩) (Q.getD i e0).g (if i < j then Mf.marksF (1 + 9 * (i : Int) + 1) 8 else (Q.getD i e0).l)

theorem Md.below {w w' : World} {g j : Nat} {Q : List E} (h : Md w g Q j) (b : Below w.heap.size w w') : Md w' g Q j := by
  refine ⟨fun hp => ?_, fun i hi => ?_, fun i hi => ?_, fun i hi => (h.own i hi).below b⟩
  · obtain ⟨cur, hc⟩ := h.blk hp
    exact ⟨cur, (b.block _ (Array.getElem?_eq_some_iff.1 hc).1).trans hc⟩
  · exact (b.cell (World.block_lt_of_cell? _ _ (h.port i hi))).trans (h.port i hi)
  · exact (b.cell (World.block_lt_of_cell? _ _ (h.hd i hi))).trans (h.hd i hi)

/-- The blocks lie apart. -/
structure Ap (B g : Nat) (Q : List E) : Prop where
  far : ∀ i, i < Q.length → (Q.getD i e0).g ≠ g
  diff : ∀ i k, i < Q.length → k < Q.length → i ≠ k → (Q.getD i e0).g ≠ (Q.getD k e0).g
  lo : 0 < Q.length → B ≤ g
  low : ∀ i, i < Q.length → B ≤ (Q.getD i e0).g
  len : ∀ i, i < Q.length → (Q.getD i e0).l.length = 8

theorem start {w : World} {B : Nat} {v : Value} {Q : List E} (h : Sn w B v Q) : ∃ a g cap, v = .slice a Q.length cap ∧ (0 < Q.length → a = some ⟨g, 0, none⟩) ∧ Md w g Q 0 ∧ Ap B g Q := by
  obtain ⟨a, g, cap, rfl, hh, hc⟩ := view h
  refine ⟨a, g, cap, rfl, fun hp => (hh hp).1, ⟨fun hp => (hh hp).2.2, fun i hi => ?_, fun i hi => (hc i hi).2, fun i hi => ?_⟩, ⟨fun i hi e => ?_, fun i k hi hk hne => ?_, fun hp => (hh hp).2.1, fun i hi => (h.row _ (get_mem hi)).2.1, fun i hi => (h.row _ (get_mem hi)).2.2⟩⟩
  · rw [if_neg (Nat.not_lt_zero _)]; exact (hc i hi).1
  · rw [if_neg (Nat.not_lt_zero _)]; exact (h.row _ (get_mem hi)).1.wt
  · obtain ⟨_, _, cur, hb⟩ := hh (by omega)
    obtain ⟨⟨c, hb', _⟩, _⟩ := (h.row _ (get_mem hi)).1
    rw [e, hb] at hb'
    injection hb' with hb'
    injection hb' with _ hb' _
    exact absurd hb' (by decide)
  · have hd := List.pairwise_iff_getElem.1 h.diff
    simp only [List.getD, List.getElem?_eq_getElem hi, List.getElem?_eq_getElem hk, Option.getD_some]
    rcases Nat.lt_or_gt_of_ne hne with q | q
    · exact hd i k hi hk q
    · exact fun e => hd k i hk hi q e.symm

theorem step1 {w : World} {B g j : Nat} {Q : List E} (h : Md w g Q j) (ap : Ap B g Q) (hj : j < Q.length) :
    (∀ i, i < Q.length → (w.setCell ⟨g, j * 2, none⟩ (.int .i64 (1 + 9 * (j : Int)))).cell? ⟨g, i * 2, none⟩ = some (.int .i64 (if i < j + 1 then 1 + 9 * (i : Int) else (Q.getD i e0).p))) ∧
    (∀ i, i < Q.length → (w.setCell ⟨g, j * 2, none⟩ (.int .i64 (1 + 9 * (j : Int)))).cell? ⟨g, i * 2 + 1, none⟩ = some (.slice (some ⟨(Q.getD i e0).g, 0, none⟩) 8 (Q.getD i e0).c)) ∧
    (∀ i, i < Q.length → Wt (w.setCell ⟨g, j * 2, none⟩ (.int .i64 (1 + 9 * (j : Int)))) (some ⟨(Q.getD i e0).g, 0, none⟩) (Q.getD i e0).g (if i < j then Mf.marksF (1 + 9 * (i : Int) + 1) 8 else (Q.getD i e0).l)) ∧
    ∃ cur, (w.setCell ⟨g, j * 2, none⟩ (.int .i64 (1 + 9 * (j : Int)))).heap[g]? = some (Obj.cells cur 56 (0, 0)) := by
  refine ⟨fun i hi => ?_, fun i hi => ?_, fun i hi => ?_, ?_⟩
  · by_cases e : i = j
    · subst e
      rw [World.cell?_setCell_same _ _ _ (h.port i hi), if_pos (by omega)]
    · rw [World.cell?_setCell_other _ _ _ _ (by intro q; injection q with q1 q2; omega), h.port i hi]
      have : (i < j + 1) = (i < j) := by rw [eq_iff_iff]; omega
      simp only [this]
  · rw [World.cell?_setCell_other _ _ _ _ (by intro q; injection q with q1 q2; omega)]
    exact h.hd i hi
  · exact Hs.wt_set (h.own i hi) (by simpa using fun e : g = (Q.getD i e0).g => ap.far i hi e.symm)
  · obtain ⟨cur, hc⟩ := h.blk (by omega)
    exact ⟨cur.setIfInBounds (j * 2) (.int .i64 (1 + 9 * (j : Int))), by simp [World.setCell, Array.getElem?_modify, hc]⟩

theorem step2 {w w' : World} {B g j : Nat} {Q : List E} (ap : Ap B g Q) (hj : j < Q.length)
    (hp : ∀ i, i < Q.length → w.cell? ⟨g, i * 2, none⟩ = some (.int .i64 (if i < j + 1 then 1 + 9 * (i : Int) else (Q.getD i e0).p)))
    (hd : ∀ i, i < Q.length → w.cell? ⟨g, i * 2 + 1, none⟩ = some (.slice (some ⟨(Q.getD i e0).g, 0, none⟩) 8 (Q.getD i e0).c))
    (ho : ∀ i, i < Q.length → Wt w (some ⟨(Q.getD i e0).g, 0, none⟩) (Q.getD i e0).g (if i < j then Mf.marksF (1 + 9 * (i : Int) + 1) 8 else (Q.getD i e0).l))
    (hb : ∃ cur, w.heap[g]? = some (Obj.cells cur 56 (0, 0)))
    (k : Mk.Only (Q.getD j e0).g w w') (hm : Wt w' (some ⟨(Q.getD j e0).g, 0, none⟩) (Q.getD j e0).g (Mf.marksF (1 + 9 * (j : Int) + 1) 8)) : Md w' g Q (j + 1) := by
  obtain ⟨cur, hc⟩ := hb
  have hbg : w'.heap[g]? = w.heap[g]? := k.block g (Array.getElem?_eq_some_iff.1 hc).1 (by simpa using fun e : g = (Q.getD j e0).g => ap.far j hj e.symm)
  refine ⟨fun _ => ⟨cur, hbg.trans hc⟩, fun i hi => (World.cell?_of_block (a := ⟨g, i * 2, none⟩) hbg).trans (hp i hi), fun i hi => (World.cell?_of_block (a := ⟨g, i * 2 + 1, none⟩) hbg).trans (hd i hi), fun i hi => ?_⟩
  by_cases e : i = j
  · subst e
    rw [if_pos (by omega)]
    exact hm
  · have : (i < j + 1) = (i < j) := by rw [eq_iff_iff]; omega
    simp only [this]
    exact wt_only k (ho i hi) (.inr (ap.diff i j hi hj e))

set_option maxHeartbeats 2000000 in
theorem markSentS_any {w : World} {B g cap : Nat} {a : Option Addr} {Q : List E} (hh : 0 < Q.length → a = some ⟨g, 0, none⟩) (md : Md w g Q 0) (ap : Ap B g Q) (hs : Q.length ≤ 4096) :
    Calls Try.prog 34 #[.slice a Q.length cap, .int .i64 1] w fun e w' => e = .returned (.int .i64 (1 + 9 * (Q.length : Int))) ∧ Md w' g Q Q.length ∧ Below B w w' := by
  obtain ⟨n, hn⟩ : ∃ n, n = Q.length := ⟨_, rfl⟩
  have HN : Hid (n = Q.length) := hn
  rw [← hn] at hs hh ⊢
  clear hn
  go_enter Try.func34, Try.ntmps34
  go_wp2
  go_loopw [1, 5] (fun q i wr => ∃ k : Nat, k ≤ n ∧ i = .int .i64 k ∧ q = .int .i64 (1 + 9 * (k : Int)) ∧ Below B w wr ∧ Md wr g Q k) (fun _ i _ => n - (intOf i).toNat)
  case atStart => exact ⟨0, Nat.zero_le _, rfl, by simp, Below.refl _ _, md⟩
  case round =>
    obtain ⟨k, hk, rfl, rfl, bel, mk⟩ := hrel
    by_cases hlt : k < n
    · have hkl : k < Q.length := by have := HN.out; omega
      obtain rfl := hh (by omega)
      have hkz : (k : Int) < (n : Int) := by omega
      have g0 := mk.port k hkl
      have f0 : wr.frozen? ⟨g, k * 2, none⟩ = false := by
        obtain ⟨cur, hc⟩ := mk.blk (by omega)
        simp [World.frozen?, hc]
      obtain ⟨s1, s2, s3, s4⟩ := step1 mk ap hkl
      have b1 : Below B w (wr.setCell ⟨g, k * 2, none⟩ (.int .i64 (1 + 9 * (k : Int)))) := bel.setCell (ap.lo (by omega)) _
      have g1 := s2 k hkl
      have o1 := s3 k hkl
      rw [if_neg (Nat.lt_irrefl _)] at o1
      have hl8 := ap.len k hkl
      have STEP : Hid (∀ w2, Mk.Only (Q.getD k e0).g (wr.setCell ⟨g, k * 2, none⟩ (.int .i64 (1 + 9 * (k : Int)))) w2 → Wt w2 (some ⟨(Q.getD k e0).g, 0, none⟩) (Q.getD k e0).g (Mf.marksF (1 + 9 * (k : Int) + 1) 8) → Md w2 g Q (k + 1)) := fun w2 q1 q2 => step2 ap hkl s1 s2 s3 s4 q1 q2
      have hlo := ap.low k hkl
      have hB2 : B ≤ wr.heap.size := by
        obtain ⟨cur, hc⟩ := mk.blk (by omega)
        have q1 := (Array.getElem?_eq_some_iff.1 hc).1
        have q2 := ap.lo (by omega)
        omega
      have hbw : B ≤ (wr.setCell ⟨g, k * 2, none⟩ (.int .i64 (1 + 9 * (k : Int)))).heap.size := by simp; omega
      clear s1 s2 s3 s4 mk md
      generalize (Q.getD k e0).g = gx at *
      generalize (Q.getD k e0).c = cx at *
      generalize (Q.getD k e0).l = lx at *
      generalize (Q.getD k e0).p = px at *
      obtain ⟨W1, hW1⟩ : ∃ W1, W1 = wr.setCell ⟨g, k * 2, none⟩ (.int .i64 (1 + 9 * (k : Int))) := ⟨_, rfl⟩
      rw [← hW1] at o1 b1 hbw STEP
      obtain ⟨q, hq⟩ : ∃ q, q = 1 + 9 * (k : Int) + 1 := ⟨_, rfl⟩
      have hM := Mf.markF_any q (by omega) (by omega) _ _ cx _ _ o1
      rw [hl8] at hM
      rw [← hq] at STEP
      clear o1
      go_wp2_with (go_at_call 32; rw [← hW1, ← hq]; refine hM.mono ?_; rintro e w2 ⟨rfl, hk2, hw2⟩)
      go_roundw
      case rel => exact ⟨k + 1, by omega, by go_num, by simp only [Value.int.injEq, true_and]; omega, hk2.only.below b1 hbw hlo, STEP.out _ hk2.only hw2⟩
      case measure => simp [intOf]; omega
    · have he : k = n := by omega
      subst he
      go_wp2
      go_ret
      exact ⟨rfl, mk, bel⟩

set_option maxHeartbeats 2000000 in
theorem heldSentS_any {w : World} {g cap : Nat} {a : Option Addr} {Q : List E} (hh : 0 < Q.length → a = some ⟨g, 0, none⟩) (md : Md w g Q Q.length) (hs : Q.length ≤ 4096) :
    Calls Try.prog 35 #[.slice a Q.length cap, .int .i64 1] w fun e w' => e = .returned (.int .i64 (1 + 9 * (Q.length : Int))) ∧ w' = w := by
  obtain ⟨n, hn⟩ : ∃ n, n = Q.length := ⟨_, rfl⟩
  have HN : Hid (n = Q.length) := hn
  rw [← hn] at hs hh ⊢
  clear hn
  go_enter Try.func35, Try.ntmps35
  go_wp2
  go_loop [1, 5] (fun q i => ∃ k : Nat, k ≤ n ∧ i = .int .i64 k ∧ q = .int .i64 (1 + 9 * (k : Int))) (fun _ i => n - (intOf i).toNat)
  case atStart => exact ⟨0, Nat.zero_le _, rfl, by simp⟩
  case round =>
    obtain ⟨k, hk, rfl, rfl⟩ := hrel
    by_cases hlt : k < n
    · have hkl : k < Q.length := by have := HN.out; omega
      obtain rfl := hh (by omega)
      have hkz : (k : Int) < (n : Int) := by omega
      have g0 := md.port k hkl
      have g1 := md.hd k hkl
      have o1 := md.own k hkl
      rw [if_pos hkl] at g0 o1
      generalize (Q.getD k e0).g = gx at *
      generalize (Q.getD k e0).c = cx at *
      obtain ⟨q, hq⟩ : ∃ q, q = 1 + 9 * (k : Int) + 1 := ⟨_, rfl⟩
      rw [← hq] at o1
      have hM := Mf.heldF_any q (by omega) (by omega) _ _ cx 8 _ o1
      have hnn : ¬ (q + 8 < 0) := by omega
      clear o1
      go_wp2_with (go_at_call 38; rw [← hq]; refine hM.mono ?_; rintro e w2 ⟨rfl, hw⟩; replace hw := hw.symm; subst hw)
      go_round
      case rel => exact ⟨k + 1, by omega, by go_num, by simp only [Value.int.injEq, true_and]; omega⟩
      case measure => simp [intOf]; omega
    · have he : k = n := by omega
      subst he
      go_wp2
      go_ret
      exact ⟨rfl, rfl⟩

end Go.Proofs.Ytkakdldhinimoaa.Yp
