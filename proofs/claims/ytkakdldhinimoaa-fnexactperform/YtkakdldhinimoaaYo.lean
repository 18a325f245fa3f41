/-
  Contracts of the law's helpers over what is sent and over actions: held against each other, marks.
-/
import Derived.Test.YtkakdldhinimoaaYn
import Derived.Test.YtkakdldhinimoaaMf
namespace Go.Proofs.Ytkakdldhinimoaa.Yo
set_option maxRecDepth 8000
set_option linter.unusedSimpArgs false
set_option linter.unusedVariables false
open Go Go.RowKit
open Num Pl Hr Hh Pq Ht Yh Yj Yk Yl Ym Yb Yc Yd

def e0 : E := ⟨0, [], 0, 0⟩
theorem flat_at0 (Q : List E) (i : Nat) (hi : i < Q.length) : (Yh.flat Q)[i * 2]? = some (.int .i64 (Q.getD i e0).p) := by
  induction Q generalizing i with
  | nil => simp at hi
  | cons e Q ih =>
    cases i with
    | zero => simp [Yh.flat, E.cells]
    | succ i =>
      have := ih i (by simpa using hi)
      simp only [Yh.flat] at this
      have e1 : (i + 1) * 2 = i * 2 + 1 + 1 := by omega
      simp only [Yh.flat, List.flatMap_cons, E.cells, List.cons_append, List.nil_append, e1, List.getElem?_cons_succ, this]
      simp [List.getD]
theorem flat_at1 (Q : List E) (i : Nat) (hi : i < Q.length) : (Yh.flat Q)[i * 2 + 1]? = some (.slice (some ⟨(Q.getD i e0).g, 0, none⟩) (Q.getD i e0).l.length (Q.getD i e0).c) := by
  induction Q generalizing i with
  | nil => simp at hi
  | cons e Q ih =>
    cases i with
    | zero => simp [Yh.flat, E.cells]
    | succ i =>
      have := ih i (by simpa using hi)
      simp only [Yh.flat] at this
      have e1 : (i + 1) * 2 + 1 = (i * 2 + 1) + 1 + 1 := by omega
      simp only [Yh.flat, List.flatMap_cons, E.cells, List.cons_append, List.nil_append, e1, List.getElem?_cons_succ, this]
      simp [List.getD]
theorem get_mem {Q : List E} {i : Nat} (hi : i < Q.length) : Q.getD i e0 ∈ Q := by
  simp only [List.getD, List.getElem?_eq_getElem hi, Option.getD_some]
  exact List.getElem_mem hi

/-- The slice's own form, and its cells. -/
theorem view {w : World} {B : Nat} {v : Value} {Q : List E} (h : Sn w B v Q) : ∃ a g cap, v = .slice a Q.length cap ∧ (0 < Q.length → a = some ⟨g, 0, none⟩ ∧ B ≤ g ∧ ∃ cur, w.heap[g]? = some (Obj.cells cur 56 (0, 0))) ∧
    ∀ i, i < Q.length → w.cell? ⟨g, i * 2, none⟩ = some (.int .i64 (Q.getD i e0).p) ∧ w.cell? ⟨g, i * 2 + 1, none⟩ = some (.slice (some ⟨(Q.getD i e0).g, 0, none⟩) 8 (Q.getD i e0).c) := by
  rcases h.own.2 with ⟨rfl, hq⟩ | ⟨g, cap, cur, rfl, hb, hg, _⟩
  · exact ⟨none, 0, 0, by rw [hq], fun h => by omega, fun i hi => by omega⟩
  · refine ⟨_, g, cap, rfl, fun _ => ⟨rfl, hb, cur, hg⟩, fun i hi => ?_⟩
    have c0 := h.own.cells (g := g) rfl (i * 2) _ (flat_at0 Q i hi)
    have c1 := h.own.cells (g := g) rfl (i * 2 + 1) _ (flat_at1 Q i hi)
    rw [add_eq, Nat.zero_add] at c0 c1
    rw [(h.row _ (get_mem hi)).2.2] at c1
    exact ⟨c0, c1⟩

set_option maxHeartbeats 1000000 in
theorem eqHead_any (a a' : Option Addr) (b off cap b' off' cap' : Nat) (l m : List Int) (w : World) (h : Rd w a b off l) (h' : Rd w a' b' off' m) :
    Calls Try.prog 30 #[.agg #[.slice a l.length cap], .agg #[.slice a' m.length cap']] w fun e w' => e = .returned (.bool (decide (l = m))) ∧ Below w.heap.size w w' := by
  have B := Rw.next (below_alloc1 w (.cells #[.slice a l.length cap] 42)) (below_alloc1 _ (.cells #[.slice a' m.length cap'] 42))
  have hr := h.below B
  have hr' := h'.below B
  cases hR : decide (l = m)
  · have HR : Hid (decide (l = m) = false) := hR
    clear hR
    go_enter Try.func30, Try.ntmps30
    go_wp2_with (go_at_call 15; refine (eqIntS_any _ _ _ _ _ _ _ _ _ _ _ hr hr').mono ?_; rw [HR.out]; rintro e w' ⟨rfl, hb⟩)
    go_ret
    exact ⟨rfl, Rw.next B hb⟩
  · have HR : Hid (decide (l = m) = true) := hR
    clear hR
    go_enter Try.func30, Try.ntmps30
    go_wp2_with (go_at_call 15; refine (eqIntS_any _ _ _ _ _ _ _ _ _ _ _ hr hr').mono ?_; rw [HR.out]; rintro e w' ⟨rfl, hb⟩)
    go_ret
    exact ⟨rfl, Rw.next B hb⟩

set_option maxHeartbeats 1000000 in
theorem eqSent_any (e f : E) (w : World) (he : Own w e.g e.l) (hf : Own w f.g f.l) (h8 : e.l.length = 8) (h8' : f.l.length = 8) :
    Calls Try.prog 67 #[.agg #[.int .i64 e.p, .slice (some ⟨e.g, 0, none⟩) 8 e.c], .agg #[.int .i64 f.p, .slice (some ⟨f.g, 0, none⟩) 8 f.c]] w fun r w' => r = .returned (.bool (decide ((e.p, e.l) = (f.p, f.l)))) ∧ Below w.heap.size w w' := by
  obtain ⟨p, l, g, c⟩ := e
  obtain ⟨p', l', g', c'⟩ := f
  simp only at he hf h8 h8' ⊢
  have B := Rw.next (below_alloc1 w (.cells #[.int .i64 p, .slice (some ⟨g, 0, none⟩) 8 c] 56)) (below_alloc1 _ (.cells #[.int .i64 p', .slice (some ⟨g', 0, none⟩) 8 c'] 56))
  have hr := (he.below B).rd
  have hr' := (hf.below B).rd
  by_cases hp : p = p'
  · subst hp
    have hE := eqHead_any _ _ _ _ c _ _ c' _ _ _ hr hr'
    rw [h8, h8'] at hE
    have HD : Hid (decide ((p, l) = (p, l')) = decide (l = l')) := by unfold Hid; simp
    have HE := hid hE
    clear hE he hf h8 h8'
    rw [HD.out]
    cases hR : decide (l = l')
    · have HR : Hid (decide (l = l') = false) := hR
      clear hR
      go_enter Try.func67, Try.ntmps67
      go_wp2_with (go_at_call 30; refine HE.out.mono ?_; rw [HR.out]; rintro e w' ⟨rfl, hb⟩)
      go_ret
      exact ⟨rfl, Rw.next B hb⟩
    · have HR : Hid (decide (l = l') = true) := hR
      clear hR
      go_enter Try.func67, Try.ntmps67
      go_wp2_with (go_at_call 30; refine HE.out.mono ?_; rw [HR.out]; rintro e w' ⟨rfl, hb⟩)
      go_ret
      exact ⟨rfl, Rw.next B hb⟩
  · have hn : (p != p') = true := by simpa using hp
    have hf' : decide ((p, l) = (p', l')) = false := by simp [hp]
    rw [hf']
    go_enter Try.func67, Try.ntmps67
    go_wp2
    go_ret
    exact ⟨rfl, B⟩

theorem said_at (Q : List E) (i : Nat) (hi : i < Q.length) : (said Q).getD i (0, []) = ((Q.getD i e0).p, (Q.getD i e0).l) := by
  simp [said, List.getD, hi]
theorem said_ext {Q Q' : List E} (hl : Q.length = Q'.length) (h : ∀ i, i < Q.length → ((Q.getD i e0).p, (Q.getD i e0).l) = ((Q'.getD i e0).p, (Q'.getD i e0).l)) : said Q = said Q' := by
  refine List.ext_getElem (by rw [said_len, said_len, hl]) fun i h1 h2 => ?_
  rw [said_len] at h1 h2
  have := h i h1
  rw [← said_at Q i h1, ← said_at Q' i h2] at this
  have g1 : i < (said Q).length := by rw [said_len]; exact h1
  have g2 : i < (said Q').length := by rw [said_len]; exact h2
  simpa [List.getD, g1, g2] using this
theorem said_ne {Q Q' : List E} {i : Nat} (hi : i < Q.length) (hi' : i < Q'.length) (h : ¬ ((Q.getD i e0).p, (Q.getD i e0).l) = ((Q'.getD i e0).p, (Q'.getD i e0).l)) : decide (said Q = said Q') = false := by
  refine decide_eq_false fun e => h ?_
  rw [← said_at Q i hi, ← said_at Q' i hi', e]

set_option maxHeartbeats 2000000 in
theorem eqSentS_any {w : World} {B B' : Nat} {v v' : Value} {Q Q' : List E} (h : Sn w B v Q) (h' : Sn w B' v' Q') (hs : Q.length ≤ 4096) (hs' : Q'.length ≤ 4096) :
    Calls Try.prog 29 #[v, v'] w fun e w' => e = .returned (.bool (decide (said Q = said Q'))) ∧ Below w.heap.size w w' := by
  obtain ⟨a, g, cap, rfl, hh, hc⟩ := view h
  obtain ⟨a', g', cap', rfl, hh', hc'⟩ := view h'
  by_cases hl : Q.length = Q'.length
  · obtain ⟨n, hn⟩ : ∃ n, n = Q.length := ⟨_, rfl⟩
    have hn' : Q'.length = n := by omega
    rw [hn'] at hh' hc' hs' ⊢
    rw [← hn] at hh hc hs ⊢
    have HN : Hid (n = Q.length) := hn
    have HN' : Hid (Q'.length = n) := hn'
    clear hn hn' hl
    go_enter Try.func29, Try.ntmps29
    go_wp2
    go_loopw [5] (fun i wr => ∃ k : Nat, k ≤ n ∧ i = .int .i64 k ∧ Below w.heap.size w wr ∧ ∀ i, i < k → ((Q.getD i e0).p, (Q.getD i e0).l) = ((Q'.getD i e0).p, (Q'.getD i e0).l)) (fun i _ => n - (intOf i).toNat)
    case atStart => exact ⟨0, Nat.zero_le _, rfl, Below.refl _ _, fun i hi => by omega⟩
    case round =>
      obtain ⟨k, hk, rfl, hbel, hsame⟩ := hrel
      have HSA : Hid (∀ i, i < k → ((Q.getD i e0).p, (Q.getD i e0).l) = ((Q'.getD i e0).p, (Q'.getD i e0).l)) := hsame
      clear hsame
      by_cases hlt : k < n
      · obtain ⟨rfl, _⟩ := hh (by omega)
        obtain ⟨rfl, _⟩ := hh' (by omega)
        have hkz : (k : Int) < (n : Int) := by omega
        obtain ⟨c0, c1⟩ := hc k hlt
        obtain ⟨d0, d1⟩ := hc' k hlt
        have rk := h.row _ (get_mem (Q := Q) (i := k) (by have := HN.out; omega))
        have rk' := h'.row _ (get_mem (Q := Q') (i := k) (by have := HN'.out; omega))
        replace c0 := (hbel.cell (World.block_lt_of_cell? _ _ c0)).trans c0
        replace c1 := (hbel.cell (World.block_lt_of_cell? _ _ c1)).trans c1
        replace d0 := (hbel.cell (World.block_lt_of_cell? _ _ d0)).trans d0
        replace d1 := (hbel.cell (World.block_lt_of_cell? _ _ d1)).trans d1
        have o1 := rk.1.below hbel
        have o2 := rk'.1.below hbel
        have l1 := rk.2.2
        have l2 := rk'.2.2
        have NE : Hid (¬ ((Q.getD k e0).p, (Q.getD k e0).l) = ((Q'.getD k e0).p, (Q'.getD k e0).l) → decide (said Q = said Q') = false) := fun q => said_ne (by have := HN.out; omega) (by have := HN'.out; omega) q
        have ST : Hid (((Q.getD k e0).p, (Q.getD k e0).l) = ((Q'.getD k e0).p, (Q'.getD k e0).l) → ∀ i, i < k + 1 → ((Q.getD i e0).p, (Q.getD i e0).l) = ((Q'.getD i e0).p, (Q'.getD i e0).l)) := fun q i hi => by
          by_cases e : i = k
          · subst e; exact q
          · exact HSA.out i (by omega)
        generalize Q.getD k e0 = x at *
        generalize Q'.getD k e0 = y at *
        have hE := eqSent_any x y wr.drew (o1.below (Below.drew (Below.refl _ wr))) (o2.below (Below.drew (Below.refl _ wr))) l1 l2
        clear hc hc' rk rk' hh hh'
        cases hR : decide ((x.p, x.l) = (y.p, y.l))
        · rw [hR] at hE
          go_wp2
          go_region_with (go_at_call 67; refine hE.mono ?_; rintro e w1 ⟨rfl, hb⟩)
          all_goals go_wp2
          all_goals go_ret
          all_goals exact ⟨ret_bool (NE.out (of_decide_eq_false hR)).symm, Rw.next (by repeat (first | exact hbel | apply Below.drew)) hb⟩
        · rw [hR] at hE
          go_wp2
          go_region_with (go_at_call 67; refine hE.mono ?_; rintro e w1 ⟨rfl, hb⟩)
          all_goals go_wp2
          all_goals go_roundw
          all_goals first
            | exact ⟨k + 1, by omega, by go_num, Rw.next (by repeat (first | exact hbel | apply Below.drew)) hb, ST.out (of_decide_eq_true hR)⟩
            | (simp [intOf]; omega)
      · have he : k = n := by omega
        subst he
        go_wp2
        go_ret
        exact ⟨ret_bool (decide_eq_true (said_ext (by have := HN.out; have := HN'.out; omega) (by rw [← HN.out]; exact HSA.out))).symm, hbel⟩
  · have hne : ((Q.length : Int) != (Q'.length : Int)) = true := by simp; omega
    have hd : decide (said Q = said Q') = false := decide_eq_false fun e => hl (by rw [← said_len Q, ← said_len Q', e])
    rw [hd]
    go_enter Try.func29, Try.ntmps29
    go_wp2
    go_ret
    exact ⟨rfl, Below.refl _ _⟩

end Go.Proofs.Ytkakdldhinimoaa.Yo
