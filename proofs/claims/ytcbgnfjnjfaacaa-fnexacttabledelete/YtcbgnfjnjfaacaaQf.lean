/-
  Contracts laid together (Ke, Mj, Mo, Mp, Mh, Mq, Ld, Nb).
-/
import Derived.Test.YtcbgnfjnjfaacaaQe
import Derived.Deep.RegionHeld3
import Derived.Deep.MidRow
namespace Go.Proofs.Ytcbgnfjnjfaacaa.Ka
set_option maxRecDepth 8000
set_option linter.unusedSimpArgs false
set_option linter.unusedVariables false
open Go Go.RowKit Go.Maps
open Num Pl Ea Ra Pq Pa

theorem aheadS (x y : Ent) (w : World) (R : Bool) (hR : R = true ↔ rk x y < 0) : Calls Try.prog 84 #[.agg #[.int .i64 x.ep, .int .i64 x.pr, .slice x.aV x.V.length x.cV, .slice x.aM x.M.length x.cM, .slice x.aA x.A.length x.cA, .int .i64 x.h], .agg #[.int .i64 y.ep, .int .i64 y.pr, .slice y.aV y.V.length y.cV, .slice y.aM y.M.length y.cM, .slice y.aA y.A.length y.cA, .int .i64 y.h]] w fun e w' => e = .returned (.bool R) ∧ Below w.heap.size w w' := by
  have B1 : Below w.heap.size w ((w.alloc (.cells #[.int .i64 x.ep, .int .i64 x.pr, .slice x.aV x.V.length x.cV, .slice x.aM x.M.length x.cM, .slice x.aA x.A.length x.cA, .int .i64 x.h] 41)).alloc (.cells #[.int .i64 y.ep, .int .i64 y.pr, .slice y.aV y.V.length y.cV, .slice y.aM y.M.length y.cM, .slice y.aA y.A.length y.cA, .int .i64 y.h] 41)) := Rw.next (below_alloc1 _ _) (below_alloc1 _ _)
  have e : R = decide (x.ep < y.ep ∨ x.ep = y.ep ∧ y.pr < x.pr) := by
    rw [rk_lt] at hR
    cases R <;> simp_all
  rw [e]
  by_cases h1 : x.ep < y.ep
  · go_enter Try.func84, Try.ntmps84
    go_wp2
    go_ret
    exact ⟨ret_bool (by simp [h1]), B1⟩
  · by_cases h2 : x.ep = y.ep
    · have h2' : (x.ep == y.ep) = true := by simp [h2]
      have H2 : Hid (x.ep = y.ep) := h2
      clear h2
      go_enter Try.func84, Try.ntmps84
      go_wp2
      go_ret
      exact ⟨ret_bool (by have h2 := H2.out; simp [h2]), B1⟩
    · have h2' : (x.ep == y.ep) = false := by simpa using h2
      go_enter Try.func84, Try.ntmps84
      go_wp2
      go_ret
      exact ⟨ret_bool (by simp [h1, h2]), B1⟩

set_option maxHeartbeats 2000000 in
theorem sameS (x y : Ent) (w : World) (hx : x.Ok w) (hy : y.Ok w) (ex : enB x.said = true) (ey : enB y.said = true) (R : Bool) (hR : R = true ↔ SameKey x.said y.said) : Calls Try.prog 82 #[.agg #[.int .i64 x.ep, .int .i64 x.pr, .slice x.aV x.V.length x.cV, .slice x.aM x.M.length x.cM, .slice x.aA x.A.length x.cA, .int .i64 x.h], .agg #[.int .i64 y.ep, .int .i64 y.pr, .slice y.aV y.V.length y.cV, .slice y.aM y.M.length y.cM, .slice y.aA y.A.length y.cA, .int .i64 y.h]] w fun e w' => e = .returned (.bool R) ∧ Below w.heap.size w w' := by
  obtain ⟨W1, hW1⟩ : ∃ W1, W1 = (w.alloc (.cells #[.int .i64 x.ep, .int .i64 x.pr, .slice x.aV x.V.length x.cV, .slice x.aM x.M.length x.cM, .slice x.aA x.A.length x.cA, .int .i64 x.h] 41)).alloc (.cells #[.int .i64 y.ep, .int .i64 y.pr, .slice y.aV y.V.length y.cV, .slice y.aM y.M.length y.cM, .slice y.aA y.A.length y.cA, .int .i64 y.h] 41) := ⟨_, rfl⟩
  have B1 : Below w.heap.size w W1 := by subst hW1; exact Rw.next (below_alloc1 _ _) (below_alloc1 _ _)
  have ox := hx.below B1
  have oy := hy.below B1
  have hc := Mt.sameS_any _ _ _ _ x.cV _ _ x.cM _ _ _ _ y.cV _ _ y.cM x.V x.M y.V y.M W1 ox.rV ox.rM oy.rV oy.rM ox.wV oy.wV
  have mx := right_match ex
  have my := right_match ey
  simp only [Ent.said] at mx my
  rw [mx, my] at hc
  have e : R = (decide (x.ep = y.ep) && (decide (x.pr = y.pr) && (decide (x.V = y.V) && decide (x.M = y.M)))) := by
    simp only [SameKey, Ent.said] at hR
    cases R <;> simp_all
  rw [e]
  simp only [Bool.true_and] at hc
  generalize (decide (x.V = y.V) && decide (x.M = y.M)) = r at hc ⊢
  clear e hR mx my ox oy
  by_cases h1 : x.ep = y.ep
  · have h1' : (x.ep == y.ep) = true := by simp [h1]
    have H1 : Hid (x.ep = y.ep) := h1
    clear h1
    by_cases h2 : x.pr = y.pr
    · have h2' : (x.pr == y.pr) = true := by simp [h2]
      have H2 : Hid (x.pr = y.pr) := h2
      clear h2
      go_enter Try.func82, Try.ntmps82
      go_wp2_with (go_at_call 115; rw [← hW1]; clear hW1; refine hc.mono ?_; rintro x1 wa ⟨rfl, hb⟩)
      go_ret
      exact ⟨ret_bool (by have h1 := H1.out; have h2 := H2.out; simp [h1, h2]), Rw.next B1 hb⟩
    · have h2' : (x.pr == y.pr) = false := by simpa using h2
      go_enter Try.func82, Try.ntmps82
      go_wp2
      go_ret
      exact ⟨ret_bool (by have h1 := H1.out; simp [h1, h2]), by rw [← hW1]; exact B1⟩
  · have h1' : (x.ep == y.ep) = false := by simpa using h1
    go_enter Try.func82, Try.ntmps82
    go_wp2
    go_ret
    exact ⟨ret_bool (by simp [h1]), by rw [← hW1]; exact B1⟩

/-- What is known of the first i entries. -/
structure Upto (Q : List Ent) (i : Nat) : Prop where
  right : ∀ j, j < i → enB (Q.getD j e0).said = true
  sorted : ∀ j, j + 1 < i → ¬ rk (Q.getD (j + 1) e0) (Q.getD j e0) < 0
  once : Once Q i
theorem tabP_iff {q : Int} {Q : List Ent} : TabP q (Q.map Ent.said) ↔ (0 ≤ q ∧ q ≤ 400 ∧ (Q.length : Int) ≤ q ∧ Upto Q Q.length) := by
  constructor
  · intro t
    refine ⟨t.q0, t.q1, by simpa using t.len, fun i hi => ?_, fun i hi => ?_, fun i j h1 h2 h3 h4 => ?_⟩
    · have := t.each i (by simpa using hi); rwa [said_getD] at this
    · have := t.sorted i (by simpa using hi); rwa [said_getD, said_getD, ahead_rk] at this
    · have := t.once i j h1 (by simpa using h2)
      rw [said_getD, said_getD] at this
      have e := rk_eq.1 h3
      exact this ⟨e.1, e.2, h4.1, h4.2⟩
  · rintro ⟨t1, t2, t3, t4, t5, t6⟩
    refine ⟨t1, t2, by simpa using t3, fun i hi => ?_, fun i hi => ?_, fun i j h1 h2 => ?_⟩
    · rw [said_getD]; exact t4 i (by simpa using hi)
    · rw [said_getD, said_getD, ahead_rk]; exact t5 i (by simpa using hi)
    · rw [said_getD, said_getD]
      rintro ⟨e1, e2, e3, e4⟩
      exact t6 i j h1 (by simpa using h2) (rk_eq.2 ⟨e1, e2⟩) ⟨e3, e4⟩
theorem Upto.le {Q : List Ent} {n : Nat} (h : Upto Q n) {i j : Nat} (hij : i ≤ j) (hj : j < n) : ¬ rk (Q.getD j e0) (Q.getD i e0) < 0 := by
  induction j with
  | zero => have : i = 0 := by omega
            subst this; rw [rk_lt]; omega
  | succ j ih =>
    by_cases e : i = j + 1
    · subst e; rw [rk_lt]; omega
    · have h1 := ih (by omega) (by omega)
      have h2 := h.sorted j hj
      rw [rk_lt] at h1 h2 ⊢
      omega
theorem said_same {a b : Ent} : SameKey a.said b.said ↔ (rk a b = 0 ∧ a.V = b.V ∧ a.M = b.M) := by
  rw [rk_eq]
  simp only [SameKey, Ent.said]
  exact ⟨fun ⟨h1, h2, h3, h4⟩ => ⟨⟨h1, h2⟩, h3, h4⟩, fun ⟨⟨h1, h2⟩, h3, h4⟩ => ⟨h1, h2, h3, h4⟩⟩

set_option maxHeartbeats 16000000 in
theorem tabS (q : Int) (a : Option Addr) (b off cap : Nat) (Q : List Ent) (w : World) (h : Rd w a b off Q) (R : Bool) (hR : R = true ↔ TabP q (Q.map Ent.said)) :
    Calls Try.prog 39 #[.agg #[.int .i64 q, .slice a Q.length cap]] w fun e w' => e = .returned (.bool R) ∧ Below w.heap.size w w' := by
  rw [tabP_iff] at hR
  obtain ⟨W1, hW1⟩ : ∃ W1, W1 = w.alloc (.cells #[.int .i64 q, .slice a Q.length cap] 38) := ⟨_, rfl⟩
  have B1 : Below w.heap.size w W1 := by subst hW1; exact below_alloc1 _ _
  have k0 : W1.heap[w.heap.size]? = some (.cells #[.int .i64 q, .slice a Q.length cap] 38 (0, 0)) := by subst hW1; exact at_new rfl
  have HR : Hid (R = true ↔ (0 ≤ q ∧ q ≤ 400 ∧ (Q.length : Int) ≤ q ∧ Upto Q Q.length)) := hR
  clear hR
  obtain ⟨hh, hc, ho, hs⟩ := h
  obtain ⟨n, hn⟩ : ∃ n, n = Q.length := ⟨_, rfl⟩
  rw [← hn] at hh hc ho hs hW1 k0 ⊢
  have HN : Hid (n = Q.length) := hn
  clear hn
  have no : ∀ P : Prop, ((0 ≤ q ∧ q ≤ 400 ∧ (Q.length : Int) ≤ q ∧ Upto Q Q.length) → P) → ¬ P → false = R := fun P h1 h2 => by
    cases R
    · rfl
    · exact absurd (h1 (HR.out.1 rfl)) h2
  by_cases g0 : q < 0
  · go_enter Try.func39, Try.ntmps39
    go_wp2
    go_ret
    exact ⟨ret_bool (no (0 ≤ q) (fun t => t.1) (by omega)), by rw [← hW1]; exact B1⟩
  by_cases g1 : 400 < q
  · go_enter Try.func39, Try.ntmps39
    go_wp2
    go_ret
    exact ⟨ret_bool (no (q ≤ 400) (fun t => t.2.1) (by omega)), by rw [← hW1]; exact B1⟩
  by_cases g2 : q < (n : Int)
  · go_enter Try.func39, Try.ntmps39
    go_wp2
    go_ret
    exact ⟨ret_bool (no ((Q.length : Int) ≤ q) (fun t => t.2.2.1) (by have := HN.out; omega)), by rw [← hW1]; exact B1⟩
  have HQ : Hid (0 ≤ q ∧ q ≤ 400 ∧ (Q.length : Int) ≤ q) := ⟨by omega, by omega, by have := HN.out; omega⟩
  go_enter Try.func39, Try.ntmps39
  go_wp2
  rw [← hW1]
  clear hW1 g0 g1 g2
  go_loopw [24] (fun u wr => ∃ i : Nat, i ≤ n ∧ u = .int .i64 i ∧ Below w.heap.size w wr ∧ wr.heap[w.heap.size]? = some (.cells #[.int .i64 q, .slice a n cap] 38 (0, 0)) ∧ Upto Q i) (fun u _ => n - (intOf u).toNat)
  case atStart => exact ⟨0, Nat.zero_le _, rfl, B1, k0, fun j hj => by omega, fun j hj => by omega, fun i j h1 h2 => by omega⟩
  case round =>
    clear k0 B1
    obtain ⟨i, hi, rfl, hbel, kT, hup⟩ := hrel
    have HU : Hid (Upto Q i) := hup
    clear hup
    obtain ⟨p0, p1⟩ := Pm.two kT
    have bt := blk_lt kT
    by_cases hlt : i < n
    · obtain rfl := hh (by omega)
      have hnz : (i : Int) < (n : Int) := by omega
      obtain ⟨c0, c1, c2, c3, c4, c5⟩ := ((hc i hlt).of hbel (At6.lt (hc i hlt))).six
      have ok := (ho i hlt).of hbel (Nat.le_refl _)
      have bl : b < wr.heap.size := World.block_lt_of_cell? _ _ c0
      obtain ⟨x, hx⟩ : ∃ x, x = Q.getD i e0 := ⟨_, rfl⟩
      rw [← hx] at c0 c1 c2 c3 c4 c5 ok
      have HX : Hid (Q.getD i e0 = x) := hx.symm
      clear hx
      have hE := okE_spec x wr ok
      simp only [ent_vals] at hE
      cases hen : enB x.said
      · rw [hen] at hE
        have HE : Hid (enB x.said = false) := hen
        clear hen
        go_wp2_with (go_at_call 34; refine hE.mono ?_; rintro x1 w2 ⟨rfl, hb⟩)
        go_ret
        exact ⟨ret_bool (no (enB x.said = true) (fun t => by rw [← HX.out]; exact t.2.2.2.right i (by have := HN.out; omega)) (by rw [HE.out]; decide)), Rw.next hbel hb⟩
      rw [hen] at hE
      have HE : Hid (enB x.said = true) := hen
      clear hen
      go_wp2_with (go_at_call 34; refine hE.mono ?_; rintro x1 w2 ⟨rfl, hb⟩; replace hbel := Rw.next hbel hb; replace kT := (hb.block _ bt).trans kT; clear c0 c1 c2 c3 c4 c5 p0 p1; have bl2 := Nat.lt_of_lt_of_le bl hb.size; have bt2 := Nat.lt_of_lt_of_le bt hb.size; replace ok := ok.below hb; clear hb bl bt hE)
      obtain ⟨p0, p1⟩ := Pm.two kT
      obtain ⟨c0, c1, c2, c3, c4, c5⟩ := ((hc i hlt).of hbel (At6.lt (hc i hlt))).six
      rw [HX.out] at c0 c1 c2 c3 c4 c5
      have bl := bl2
      have bt := bt2
      clear bl2 bt2
      -- the entry before
      have sorted1 : (∀ j, i = j + 1 → ¬ rk x (Q.getD j e0) < 0) → ∀ j, j + 1 < i + 1 → ¬ rk (Q.getD (j + 1) e0) (Q.getD j e0) < 0 := by
        intro h1 j hj
        by_cases e1 : j + 1 = i
        · rw [e1, HX.out]; exact h1 j e1.symm
        · exact HU.out.sorted j (by omega)
      have HS1 : Hid ((∀ j, i = j + 1 → ¬ rk x (Q.getD j e0) < 0) → ∀ j, j + 1 < i + 1 → ¬ rk (Q.getD (j + 1) e0) (Q.getD j e0) < 0) := sorted1
      clear sorted1
      have right1 : ∀ j, j < i + 1 → enB (Q.getD j e0).said = true := by
        intro j hj
        by_cases e1 : j = i
        · rw [e1, HX.out]; exact HE.out
        · exact HU.out.right j (by omega)
      have HRi : Hid (∀ j, j < i + 1 → enB (Q.getD j e0).said = true) := right1
      clear right1
      rcases Nat.eq_zero_or_pos i with h0 | h0
      · -- the first entry
        subst h0
        have hz0 : ¬ (0 : Int) > 0 := by omega
        refine wp_region_held_drew (S := (fun _ => True)) (by kernel_rfl) trivial (fun hHeld => ?_)
        refine take (i := 0) (d := some 34) (v := .int .i64 0) rfl (by kernel_rfl) (by kernel_rfl) (by kernel_rfl) (by kernel_rfl) (fun _ _ _ h => h) (Or.inl ⟨by rfl, by intro w hSw; go_simp⟩) hHeld ?_
        simp only [Act.put, List.setIfInBounds_toArray, List.set_cons_zero, List.set_cons_succ]
        refine take (i := 1) (d := some 35) (v := .bool false) rfl (by kernel_rfl) (by kernel_rfl) (by kernel_rfl) (by kernel_rfl) (fun _ _ _ h => h) (Or.inl ⟨by rfl, by intro w hSw; go_simp⟩) hHeld ?_
        simp only [Act.put, List.setIfInBounds_toArray, List.set_cons_zero, List.set_cons_succ]
        refine take (i := 2) (d := some 36) (v := .bool false) rfl (by kernel_rfl) (by kernel_rfl) (by kernel_rfl) (by kernel_rfl) (fun _ _ _ h => h) (Or.inl ⟨by rfl, by intro w hSw; go_simp⟩) hHeld ?_
        simp only [Act.put, List.setIfInBounds_toArray, List.set_cons_zero, List.set_cons_succ]
        refine take (i := 3) (d := some 37) (v := undef) rfl (by kernel_rfl) (by kernel_rfl) (by kernel_rfl) (by kernel_rfl) (fun _ _ _ h => h) (Or.inr ⟨by rfl, rfl⟩) hHeld ?_
        simp only [Act.put, List.setIfInBounds_toArray, List.set_cons_zero, List.set_cons_succ]
        refine take (i := 4) (d := some 38) (v := undef) rfl (by kernel_rfl) (by kernel_rfl) (by kernel_rfl) (by kernel_rfl) (fun _ _ _ h => h) (Or.inr ⟨by rfl, rfl⟩) hHeld ?_
        simp only [Act.put, List.setIfInBounds_toArray, List.set_cons_zero, List.set_cons_succ]
        refine take (i := 5) (d := some 39) (v := undef) rfl (by kernel_rfl) (by kernel_rfl) (by kernel_rfl) (by kernel_rfl) (fun _ _ _ h => h) (Or.inr ⟨by rfl, rfl⟩) hHeld ?_
        simp only [Act.put, List.setIfInBounds_toArray, List.set_cons_zero, List.set_cons_succ]
        refine take (i := 6) (d := some 40) (v := undef) rfl (by kernel_rfl) (by kernel_rfl) (by kernel_rfl) (by kernel_rfl) (fun _ _ _ h => h) (Or.inr ⟨by rfl, rfl⟩) hHeld ?_
        simp only [Act.put, List.setIfInBounds_toArray, List.set_cons_zero, List.set_cons_succ]
        refine take (i := 7) (d := some 41) (v := undef) rfl (by kernel_rfl) (by kernel_rfl) (by kernel_rfl) (by kernel_rfl) (fun _ _ _ h => h) (Or.inr ⟨by rfl, rfl⟩) hHeld ?_
        simp only [Act.put, List.setIfInBounds_toArray, List.set_cons_zero, List.set_cons_succ]
        refine take (i := 8) (d := some 42) (v := undef) rfl (by kernel_rfl) (by kernel_rfl) (by kernel_rfl) (by kernel_rfl) (fun _ _ _ h => h) (Or.inr ⟨by rfl, rfl⟩) hHeld ?_
        simp only [Act.put, List.setIfInBounds_toArray, List.set_cons_zero, List.set_cons_succ]
        refine take (i := 9) (d := some 43) (v := undef) rfl (by kernel_rfl) (by kernel_rfl) (by kernel_rfl) (by kernel_rfl) (fun _ _ _ h => h) (Or.inr ⟨by rfl, rfl⟩) hHeld ?_
        simp only [Act.put, List.setIfInBounds_toArray, List.set_cons_zero, List.set_cons_succ]
        refine take (i := 10) (d := some 44) (v := undef) rfl (by kernel_rfl) (by kernel_rfl) (by kernel_rfl) (by kernel_rfl) (fun _ _ _ h => h) (Or.inr ⟨by rfl, rfl⟩) hHeld ?_
        simp only [Act.put, List.setIfInBounds_toArray, List.set_cons_zero, List.set_cons_succ]
        refine take (i := 11) (d := some 45) (v := undef) rfl (by kernel_rfl) (by kernel_rfl) (by kernel_rfl) (by kernel_rfl) (fun _ _ _ h => h) (Or.inr ⟨by rfl, rfl⟩) hHeld ?_
        simp only [Act.put, List.setIfInBounds_toArray, List.set_cons_zero, List.set_cons_succ]
        refine take (i := 12) (d := some 46) (v := undef) rfl (by kernel_rfl) (by kernel_rfl) (by kernel_rfl) (by kernel_rfl) (fun _ _ _ h => h) (Or.inr ⟨by rfl, rfl⟩) hHeld ?_
        simp only [Act.put, List.setIfInBounds_toArray, List.set_cons_zero, List.set_cons_succ]
        refine take (i := 13) (d := some 47) (v := undef) rfl (by kernel_rfl) (by kernel_rfl) (by kernel_rfl) (by kernel_rfl) (fun _ _ _ h => h) (Or.inr ⟨by rfl, rfl⟩) hHeld ?_
        simp only [Act.put, List.setIfInBounds_toArray, List.set_cons_zero, List.set_cons_succ]
        refine take (i := 14) (d := some 48) (v := undef) rfl (by kernel_rfl) (by kernel_rfl) (by kernel_rfl) (by kernel_rfl) (fun _ _ _ h => h) (Or.inr ⟨by rfl, rfl⟩) hHeld ?_
        simp only [Act.put, List.setIfInBounds_toArray, List.set_cons_zero, List.set_cons_succ]
        refine take (i := 15) (d := some 49) (v := .bool false) rfl (by kernel_rfl) (by kernel_rfl) (by kernel_rfl) (by kernel_rfl) (fun _ _ _ h => h) (Or.inl ⟨by rfl, by intro w hSw; go_simp⟩) hHeld ?_
        simp only [Act.put, List.setIfInBounds_toArray, List.set_cons_zero, List.set_cons_succ]
        refine wpAnyH_done (by kernel_rfl) ?_ _
        go_wp2
        go_loopw [4] (fun u wr => u = .int .i64 (-1) ∧ Below w.heap.size w wr ∧ wr.heap[w.heap.size]? = some (.cells #[.int .i64 q, .slice (some ⟨b, off, none⟩) n cap] 38 (0, 0))) (fun u _ => 0)
        case atStart => exact ⟨by first | rfl | go_num, by repeat (first | exact hbel | apply Below.drew), kT⟩
        case round =>
          obtain ⟨rfl, hbel2, kT2⟩ := hrel
          go_wp2
          refine wp_region_held_drew (S := (fun _ => True)) (by kernel_rfl) trivial (fun hHeld => ?_)
          refine take (i := 0) (d := some 52) (v := .int .i64 (-1)) rfl (by kernel_rfl) (by kernel_rfl) (by kernel_rfl) (by kernel_rfl) (fun _ _ _ h => h) (Or.inl ⟨by rfl, by intro w hSw; go_simp⟩) hHeld ?_
          simp only [Act.put, List.setIfInBounds_toArray, List.set_cons_zero, List.set_cons_succ]
          refine take (i := 1) (d := some 53) (v := .bool false) rfl (by kernel_rfl) (by kernel_rfl) (by kernel_rfl) (by kernel_rfl) (fun _ _ _ h => h) (Or.inl ⟨by rfl, by intro w hSw; go_simp⟩) hHeld ?_
          simp only [Act.put, List.setIfInBounds_toArray, List.set_cons_zero, List.set_cons_succ]
          refine take (i := 2) (d := some 54) (v := .bool false) rfl (by kernel_rfl) (by kernel_rfl) (by kernel_rfl) (by kernel_rfl) (fun _ _ _ h => h) (Or.inl ⟨by rfl, by intro w hSw; go_simp⟩) hHeld ?_
          simp only [Act.put, List.setIfInBounds_toArray, List.set_cons_zero, List.set_cons_succ]
          refine take (i := 3) (d := some 55) (v := undef) rfl (by kernel_rfl) (by kernel_rfl) (by kernel_rfl) (by kernel_rfl) (fun _ _ _ h => h) (Or.inr ⟨by rfl, rfl⟩) hHeld ?_
          simp only [Act.put, List.setIfInBounds_toArray, List.set_cons_zero, List.set_cons_succ]
          refine take (i := 4) (d := some 56) (v := undef) rfl (by kernel_rfl) (by kernel_rfl) (by kernel_rfl) (by kernel_rfl) (fun _ _ _ h => h) (Or.inr ⟨by rfl, rfl⟩) hHeld ?_
          simp only [Act.put, List.setIfInBounds_toArray, List.set_cons_zero, List.set_cons_succ]
          refine take (i := 5) (d := some 57) (v := undef) rfl (by kernel_rfl) (by kernel_rfl) (by kernel_rfl) (by kernel_rfl) (fun _ _ _ h => h) (Or.inr ⟨by rfl, rfl⟩) hHeld ?_
          simp only [Act.put, List.setIfInBounds_toArray, List.set_cons_zero, List.set_cons_succ]
          refine take (i := 6) (d := some 58) (v := undef) rfl (by kernel_rfl) (by kernel_rfl) (by kernel_rfl) (by kernel_rfl) (fun _ _ _ h => h) (Or.inr ⟨by rfl, rfl⟩) hHeld ?_
          simp only [Act.put, List.setIfInBounds_toArray, List.set_cons_zero, List.set_cons_succ]
          refine take (i := 7) (d := some 59) (v := undef) rfl (by kernel_rfl) (by kernel_rfl) (by kernel_rfl) (by kernel_rfl) (fun _ _ _ h => h) (Or.inr ⟨by rfl, rfl⟩) hHeld ?_
          simp only [Act.put, List.setIfInBounds_toArray, List.set_cons_zero, List.set_cons_succ]
          refine take (i := 8) (d := some 60) (v := undef) rfl (by kernel_rfl) (by kernel_rfl) (by kernel_rfl) (by kernel_rfl) (fun _ _ _ h => h) (Or.inr ⟨by rfl, rfl⟩) hHeld ?_
          simp only [Act.put, List.setIfInBounds_toArray, List.set_cons_zero, List.set_cons_succ]
          refine take (i := 9) (d := some 61) (v := undef) rfl (by kernel_rfl) (by kernel_rfl) (by kernel_rfl) (by kernel_rfl) (fun _ _ _ h => h) (Or.inr ⟨by rfl, rfl⟩) hHeld ?_
          simp only [Act.put, List.setIfInBounds_toArray, List.set_cons_zero, List.set_cons_succ]
          refine take (i := 10) (d := some 62) (v := undef) rfl (by kernel_rfl) (by kernel_rfl) (by kernel_rfl) (by kernel_rfl) (fun _ _ _ h => h) (Or.inr ⟨by rfl, rfl⟩) hHeld ?_
          simp only [Act.put, List.setIfInBounds_toArray, List.set_cons_zero, List.set_cons_succ]
          refine take (i := 11) (d := some 63) (v := undef) rfl (by kernel_rfl) (by kernel_rfl) (by kernel_rfl) (by kernel_rfl) (fun _ _ _ h => h) (Or.inr ⟨by rfl, rfl⟩) hHeld ?_
          simp only [Act.put, List.setIfInBounds_toArray, List.set_cons_zero, List.set_cons_succ]
          refine take (i := 12) (d := some 64) (v := undef) rfl (by kernel_rfl) (by kernel_rfl) (by kernel_rfl) (by kernel_rfl) (fun _ _ _ h => h) (Or.inr ⟨by rfl, rfl⟩) hHeld ?_
          simp only [Act.put, List.setIfInBounds_toArray, List.set_cons_zero, List.set_cons_succ]
          refine take (i := 13) (d := some 65) (v := undef) rfl (by kernel_rfl) (by kernel_rfl) (by kernel_rfl) (by kernel_rfl) (fun _ _ _ h => h) (Or.inr ⟨by rfl, rfl⟩) hHeld ?_
          simp only [Act.put, List.setIfInBounds_toArray, List.set_cons_zero, List.set_cons_succ]
          refine take (i := 14) (d := some 66) (v := undef) rfl (by kernel_rfl) (by kernel_rfl) (by kernel_rfl) (by kernel_rfl) (fun _ _ _ h => h) (Or.inr ⟨by rfl, rfl⟩) hHeld ?_
          simp only [Act.put, List.setIfInBounds_toArray, List.set_cons_zero, List.set_cons_succ]
          refine take (i := 15) (d := some 67) (v := .bool false) rfl (by kernel_rfl) (by kernel_rfl) (by kernel_rfl) (by kernel_rfl) (fun _ _ _ h => h) (Or.inl ⟨by rfl, by intro w hSw; go_simp⟩) hHeld ?_
          simp only [Act.put, List.setIfInBounds_toArray, List.set_cons_zero, List.set_cons_succ]
          refine wpAnyH_done (by kernel_rfl) ?_ _
          go_wp2
          go_roundw
          case rel => exact ⟨1, by omega, rfl, by repeat (first | exact hbel2 | apply Below.drew), kT2, HRi.out, fun j hj => by omega, fun i j h1 h2 => by omega⟩
          case measure => simp [intOf]; omega
      · obtain ⟨j, hj⟩ : ∃ j, i = j + 1 := ⟨i - 1, by omega⟩
        have hjn : j < n := by omega
        have hi0 : (i : Int) > 0 := by omega
        have hj1 : (i : Int) - 1 = (j : Int) := by omega
        have hwj : IntKind.i64.wrap (j : Int) = (j : Int) := by rw [IntKind.wrap_i64]; omega
        have hjz : (j : Int) < (n : Int) := by omega
        obtain ⟨d0, d1, d2, d3, d4, d5⟩ := ((hc j hjn).of hbel (At6.lt (hc j hjn))).six
        obtain ⟨y, hy⟩ : ∃ y, y = Q.getD j e0 := ⟨_, rfl⟩
        rw [← hy] at d0 d1 d2 d3 d4 d5
        have HY : Hid (Q.getD j e0 = y) := hy.symm
        have HJ : Hid (i = j + 1) := hj
        clear hy hj
        by_cases hr : rk x y < 0
        · have hcall := fun W => aheadS x y W true (by simp [hr])
          have HRk : Hid (rk x y < 0) := hr
          clear hr
          refine wp_region_held_drew (S := (fun w' => w'.cell? ⟨w.heap.size, 0, none⟩ = some (.int .i64 q) ∧ w'.cell? ⟨w.heap.size, 1, none⟩ = some (.slice (some ⟨b, off, none⟩) n cap) ∧ w'.cell? ⟨b, off + i * 6, none⟩ = some (.int .i64 x.ep) ∧ w'.cell? ⟨b, off + i * 6 + 1, none⟩ = some (.int .i64 x.pr) ∧ w'.cell? ⟨b, off + i * 6 + 2, none⟩ = some (.slice x.aV x.V.length x.cV) ∧ w'.cell? ⟨b, off + i * 6 + 3, none⟩ = some (.slice x.aM x.M.length x.cM) ∧ w'.cell? ⟨b, off + i * 6 + 4, none⟩ = some (.slice x.aA x.A.length x.cA) ∧ w'.cell? ⟨b, off + i * 6 + 5, none⟩ = some (.int .i64 x.h) ∧ w'.cell? ⟨b, off + j * 6, none⟩ = some (.int .i64 y.ep) ∧ w'.cell? ⟨b, off + j * 6 + 1, none⟩ = some (.int .i64 y.pr) ∧ w'.cell? ⟨b, off + j * 6 + 2, none⟩ = some (.slice y.aV y.V.length y.cV) ∧ w'.cell? ⟨b, off + j * 6 + 3, none⟩ = some (.slice y.aM y.M.length y.cM) ∧ w'.cell? ⟨b, off + j * 6 + 4, none⟩ = some (.slice y.aA y.A.length y.cA) ∧ w'.cell? ⟨b, off + j * 6 + 5, none⟩ = some (.int .i64 y.h))) (by kernel_rfl) ⟨p0, p1, c0, c1, c2, c3, c4, c5, d0, d1, d2, d3, d4, d5⟩ (fun hHeld => ?_)
          refine take (i := 0) (d := some 34) (v := .int .i64 i) rfl (by kernel_rfl) (by kernel_rfl) (by kernel_rfl) (by kernel_rfl) (fun _ _ _ h => h) (Or.inl ⟨by rfl, by intro w hSw; go_simp⟩) hHeld ?_
          simp only [Act.put, List.setIfInBounds_toArray, List.set_cons_zero, List.set_cons_succ]
          refine take (i := 1) (d := some 35) (v := .bool true) rfl (by kernel_rfl) (by kernel_rfl) (by kernel_rfl) (by kernel_rfl) (fun _ _ _ h => h) (Or.inl ⟨by rfl, by intro w hSw; go_simp⟩) hHeld ?_
          simp only [Act.put, List.setIfInBounds_toArray, List.set_cons_zero, List.set_cons_succ]
          refine take (i := 2) (d := some 36) (v := .bool true) rfl (by kernel_rfl) (by kernel_rfl) (by kernel_rfl) (by kernel_rfl) (fun _ _ _ h => h) (Or.inl ⟨by rfl, by intro w hSw; go_simp⟩) hHeld ?_
          simp only [Act.put, List.setIfInBounds_toArray, List.set_cons_zero, List.set_cons_succ]
          refine take (i := 3) (d := some 37) (v := .pointer (some ⟨w.heap.size, 1, none⟩)) rfl (by kernel_rfl) (by kernel_rfl) (by kernel_rfl) (by kernel_rfl) (fun _ _ _ h => h) (Or.inl ⟨by rfl, by intro w hSw; go_simp⟩) hHeld ?_
          simp only [Act.put, List.setIfInBounds_toArray, List.set_cons_zero, List.set_cons_succ]
          refine take (i := 4) (d := some 38) (v := .slice (some ⟨b, off, none⟩) n cap) rfl (by kernel_rfl) (by kernel_rfl) (by kernel_rfl) (by kernel_rfl) (fun _ _ _ h => h) (Or.inl ⟨by rfl, by intro w hSw; obtain ⟨p0, p1, c0, c1, c2, c3, c4, c5, d0, d1, d2, d3, d4, d5⟩ := hSw; go_simp⟩) hHeld ?_
          simp only [Act.put, List.setIfInBounds_toArray, List.set_cons_zero, List.set_cons_succ]
          refine take (i := 5) (d := some 39) (v := .int .i64 i) rfl (by kernel_rfl) (by kernel_rfl) (by kernel_rfl) (by kernel_rfl) (fun _ _ _ h => h) (Or.inl ⟨by rfl, by intro w hSw; go_simp⟩) hHeld ?_
          simp only [Act.put, List.setIfInBounds_toArray, List.set_cons_zero, List.set_cons_succ]
          refine take (i := 6) (d := some 40) (v := .pointer (some ⟨b, off + i * 6, none⟩)) rfl (by kernel_rfl) (by kernel_rfl) (by kernel_rfl) (by kernel_rfl) (fun _ _ _ h => h) (Or.inl ⟨by rfl, by intro w hSw; go_simp⟩) hHeld ?_
          simp only [Act.put, List.setIfInBounds_toArray, List.set_cons_zero, List.set_cons_succ]
          refine take (i := 7) (d := some 41) (v := .agg #[.int .i64 x.ep, .int .i64 x.pr, .slice x.aV x.V.length x.cV, .slice x.aM x.M.length x.cM, .slice x.aA x.A.length x.cA, .int .i64 x.h]) rfl (by kernel_rfl) (by kernel_rfl) (by kernel_rfl) (by kernel_rfl) (fun _ _ _ h => h) (Or.inl ⟨by rfl, by intro w hSw; obtain ⟨p0, p1, c0, c1, c2, c3, c4, c5, d0, d1, d2, d3, d4, d5⟩ := hSw; go_simp⟩) hHeld ?_
          simp only [Act.put, List.setIfInBounds_toArray, List.set_cons_zero, List.set_cons_succ]
          refine take (i := 8) (d := some 42) (v := .pointer (some ⟨w.heap.size, 1, none⟩)) rfl (by kernel_rfl) (by kernel_rfl) (by kernel_rfl) (by kernel_rfl) (fun _ _ _ h => h) (Or.inl ⟨by rfl, by intro w hSw; go_simp⟩) hHeld ?_
          simp only [Act.put, List.setIfInBounds_toArray, List.set_cons_zero, List.set_cons_succ]
          refine take (i := 9) (d := some 43) (v := .slice (some ⟨b, off, none⟩) n cap) rfl (by kernel_rfl) (by kernel_rfl) (by kernel_rfl) (by kernel_rfl) (fun _ _ _ h => h) (Or.inl ⟨by rfl, by intro w hSw; obtain ⟨p0, p1, c0, c1, c2, c3, c4, c5, d0, d1, d2, d3, d4, d5⟩ := hSw; go_simp⟩) hHeld ?_
          simp only [Act.put, List.setIfInBounds_toArray, List.set_cons_zero, List.set_cons_succ]
          refine take (i := 10) (d := some 44) (v := .int .i64 i) rfl (by kernel_rfl) (by kernel_rfl) (by kernel_rfl) (by kernel_rfl) (fun _ _ _ h => h) (Or.inl ⟨by rfl, by intro w hSw; go_simp⟩) hHeld ?_
          simp only [Act.put, List.setIfInBounds_toArray, List.set_cons_zero, List.set_cons_succ]
          refine take (i := 11) (d := some 45) (v := .int .i64 j) rfl (by kernel_rfl) (by kernel_rfl) (by kernel_rfl) (by kernel_rfl) (fun _ _ _ h => h) (Or.inl ⟨by rfl, by intro w hSw; go_simp⟩) hHeld ?_
          simp only [Act.put, List.setIfInBounds_toArray, List.set_cons_zero, List.set_cons_succ]
          refine take (i := 12) (d := some 46) (v := .pointer (some ⟨b, off + j * 6, none⟩)) rfl (by kernel_rfl) (by kernel_rfl) (by kernel_rfl) (by kernel_rfl) (fun _ _ _ h => h) (Or.inl ⟨by rfl, by intro w hSw; go_simp⟩) hHeld ?_
          simp only [Act.put, List.setIfInBounds_toArray, List.set_cons_zero, List.set_cons_succ]
          refine take (i := 13) (d := some 47) (v := .agg #[.int .i64 y.ep, .int .i64 y.pr, .slice y.aV y.V.length y.cV, .slice y.aM y.M.length y.cM, .slice y.aA y.A.length y.cA, .int .i64 y.h]) rfl (by kernel_rfl) (by kernel_rfl) (by kernel_rfl) (by kernel_rfl) (fun _ _ _ h => h) (Or.inl ⟨by rfl, by intro w hSw; obtain ⟨p0, p1, c0, c1, c2, c3, c4, c5, d0, d1, d2, d3, d4, d5⟩ := hSw; go_simp⟩) hHeld ?_
          simp only [Act.put, List.setIfInBounds_toArray, List.set_cons_zero, List.set_cons_succ]
          refine wpAnyH_ready (rs := [14]) (by kernel_rfl) (by simp) (Rg.call2 (i := 14) rfl (by rfl) 84 (.tmp 41) (.tmp 47) 41 41 (by kernel_rfl) 48 (by kernel_rfl) _ _ (by kernel_rfl) (by kernel_rfl) (fun _ => rfl) (hcall _) ?_ AllReadyH.nil)
          rintro e1 w1 ⟨rfl, hb⟩
          refine ⟨_, rfl, ⟨(hb.cell (by exact bt)).trans p0, (hb.cell (by exact bt)).trans p1, (hb.cell (by exact bl)).trans c0, (hb.cell (by exact bl)).trans c1, (hb.cell (by exact bl)).trans c2, (hb.cell (by exact bl)).trans c3, (hb.cell (by exact bl)).trans c4, (hb.cell (by exact bl)).trans c5, (hb.cell (by exact bl)).trans d0, (hb.cell (by exact bl)).trans d1, (hb.cell (by exact bl)).trans d2, (hb.cell (by exact bl)).trans d3, (hb.cell (by exact bl)).trans d4, (hb.cell (by exact bl)).trans d5⟩, fun hHeld => ?_⟩
          simp only [Act.put, List.setIfInBounds_toArray, List.set_cons_zero, List.set_cons_succ]
          refine take (i := 15) (d := some 49) (v := .bool true) rfl (by kernel_rfl) (by kernel_rfl) (by kernel_rfl) (by kernel_rfl) (fun _ _ _ h => h) (Or.inl ⟨by rfl, by intro w hSw; go_simp⟩) hHeld ?_
          simp only [Act.put, List.setIfInBounds_toArray, List.set_cons_zero, List.set_cons_succ]
          refine wpAnyH_done (by kernel_rfl) ?_ _
          go_wp2
          go_ret
          exact ⟨ret_bool (no (¬ rk x y < 0) (fun t => by have := t.2.2.2.sorted j (by have := HN.out; have := HJ.out; omega); have e1 := HJ.out; rw [← e1, HX.out, HY.out] at this; exact this) (fun t => t HRk.out)), Rw.next (by repeat (first | exact hbel | apply Below.drew)) hb⟩
        · have hcall := fun W => aheadS x y W false (by simp [hr])
          have HRk : Hid (¬ rk x y < 0) := hr
          clear hr
          refine wp_region_held_drew (S := (fun w' => w'.cell? ⟨w.heap.size, 0, none⟩ = some (.int .i64 q) ∧ w'.cell? ⟨w.heap.size, 1, none⟩ = some (.slice (some ⟨b, off, none⟩) n cap) ∧ w'.cell? ⟨b, off + i * 6, none⟩ = some (.int .i64 x.ep) ∧ w'.cell? ⟨b, off + i * 6 + 1, none⟩ = some (.int .i64 x.pr) ∧ w'.cell? ⟨b, off + i * 6 + 2, none⟩ = some (.slice x.aV x.V.length x.cV) ∧ w'.cell? ⟨b, off + i * 6 + 3, none⟩ = some (.slice x.aM x.M.length x.cM) ∧ w'.cell? ⟨b, off + i * 6 + 4, none⟩ = some (.slice x.aA x.A.length x.cA) ∧ w'.cell? ⟨b, off + i * 6 + 5, none⟩ = some (.int .i64 x.h) ∧ w'.cell? ⟨b, off + j * 6, none⟩ = some (.int .i64 y.ep) ∧ w'.cell? ⟨b, off + j * 6 + 1, none⟩ = some (.int .i64 y.pr) ∧ w'.cell? ⟨b, off + j * 6 + 2, none⟩ = some (.slice y.aV y.V.length y.cV) ∧ w'.cell? ⟨b, off + j * 6 + 3, none⟩ = some (.slice y.aM y.M.length y.cM) ∧ w'.cell? ⟨b, off + j * 6 + 4, none⟩ = some (.slice y.aA y.A.length y.cA) ∧ w'.cell? ⟨b, off + j * 6 + 5, none⟩ = some (.int .i64 y.h))) (by kernel_rfl) ⟨p0, p1, c0, c1, c2, c3, c4, c5, d0, d1, d2, d3, d4, d5⟩ (fun hHeld => ?_)
          refine take (i := 0) (d := some 34) (v := .int .i64 i) rfl (by kernel_rfl) (by kernel_rfl) (by kernel_rfl) (by kernel_rfl) (fun _ _ _ h => h) (Or.inl ⟨by rfl, by intro w hSw; go_simp⟩) hHeld ?_
          simp only [Act.put, List.setIfInBounds_toArray, List.set_cons_zero, List.set_cons_succ]
          refine take (i := 1) (d := some 35) (v := .bool true) rfl (by kernel_rfl) (by kernel_rfl) (by kernel_rfl) (by kernel_rfl) (fun _ _ _ h => h) (Or.inl ⟨by rfl, by intro w hSw; go_simp⟩) hHeld ?_
          simp only [Act.put, List.setIfInBounds_toArray, List.set_cons_zero, List.set_cons_succ]
          refine take (i := 2) (d := some 36) (v := .bool true) rfl (by kernel_rfl) (by kernel_rfl) (by kernel_rfl) (by kernel_rfl) (fun _ _ _ h => h) (Or.inl ⟨by rfl, by intro w hSw; go_simp⟩) hHeld ?_
          simp only [Act.put, List.setIfInBounds_toArray, List.set_cons_zero, List.set_cons_succ]
          refine take (i := 3) (d := some 37) (v := .pointer (some ⟨w.heap.size, 1, none⟩)) rfl (by kernel_rfl) (by kernel_rfl) (by kernel_rfl) (by kernel_rfl) (fun _ _ _ h => h) (Or.inl ⟨by rfl, by intro w hSw; go_simp⟩) hHeld ?_
          simp only [Act.put, List.setIfInBounds_toArray, List.set_cons_zero, List.set_cons_succ]
          refine take (i := 4) (d := some 38) (v := .slice (some ⟨b, off, none⟩) n cap) rfl (by kernel_rfl) (by kernel_rfl) (by kernel_rfl) (by kernel_rfl) (fun _ _ _ h => h) (Or.inl ⟨by rfl, by intro w hSw; obtain ⟨p0, p1, c0, c1, c2, c3, c4, c5, d0, d1, d2, d3, d4, d5⟩ := hSw; go_simp⟩) hHeld ?_
          simp only [Act.put, List.setIfInBounds_toArray, List.set_cons_zero, List.set_cons_succ]
          refine take (i := 5) (d := some 39) (v := .int .i64 i) rfl (by kernel_rfl) (by kernel_rfl) (by kernel_rfl) (by kernel_rfl) (fun _ _ _ h => h) (Or.inl ⟨by rfl, by intro w hSw; go_simp⟩) hHeld ?_
          simp only [Act.put, List.setIfInBounds_toArray, List.set_cons_zero, List.set_cons_succ]
          refine take (i := 6) (d := some 40) (v := .pointer (some ⟨b, off + i * 6, none⟩)) rfl (by kernel_rfl) (by kernel_rfl) (by kernel_rfl) (by kernel_rfl) (fun _ _ _ h => h) (Or.inl ⟨by rfl, by intro w hSw; go_simp⟩) hHeld ?_
          simp only [Act.put, List.setIfInBounds_toArray, List.set_cons_zero, List.set_cons_succ]
          refine take (i := 7) (d := some 41) (v := .agg #[.int .i64 x.ep, .int .i64 x.pr, .slice x.aV x.V.length x.cV, .slice x.aM x.M.length x.cM, .slice x.aA x.A.length x.cA, .int .i64 x.h]) rfl (by kernel_rfl) (by kernel_rfl) (by kernel_rfl) (by kernel_rfl) (fun _ _ _ h => h) (Or.inl ⟨by rfl, by intro w hSw; obtain ⟨p0, p1, c0, c1, c2, c3, c4, c5, d0, d1, d2, d3, d4, d5⟩ := hSw; go_simp⟩) hHeld ?_
          simp only [Act.put, List.setIfInBounds_toArray, List.set_cons_zero, List.set_cons_succ]
          refine take (i := 8) (d := some 42) (v := .pointer (some ⟨w.heap.size, 1, none⟩)) rfl (by kernel_rfl) (by kernel_rfl) (by kernel_rfl) (by kernel_rfl) (fun _ _ _ h => h) (Or.inl ⟨by rfl, by intro w hSw; go_simp⟩) hHeld ?_
          simp only [Act.put, List.setIfInBounds_toArray, List.set_cons_zero, List.set_cons_succ]
          refine take (i := 9) (d := some 43) (v := .slice (some ⟨b, off, none⟩) n cap) rfl (by kernel_rfl) (by kernel_rfl) (by kernel_rfl) (by kernel_rfl) (fun _ _ _ h => h) (Or.inl ⟨by rfl, by intro w hSw; obtain ⟨p0, p1, c0, c1, c2, c3, c4, c5, d0, d1, d2, d3, d4, d5⟩ := hSw; go_simp⟩) hHeld ?_
          simp only [Act.put, List.setIfInBounds_toArray, List.set_cons_zero, List.set_cons_succ]
          refine take (i := 10) (d := some 44) (v := .int .i64 i) rfl (by kernel_rfl) (by kernel_rfl) (by kernel_rfl) (by kernel_rfl) (fun _ _ _ h => h) (Or.inl ⟨by rfl, by intro w hSw; go_simp⟩) hHeld ?_
          simp only [Act.put, List.setIfInBounds_toArray, List.set_cons_zero, List.set_cons_succ]
          refine take (i := 11) (d := some 45) (v := .int .i64 j) rfl (by kernel_rfl) (by kernel_rfl) (by kernel_rfl) (by kernel_rfl) (fun _ _ _ h => h) (Or.inl ⟨by rfl, by intro w hSw; go_simp⟩) hHeld ?_
          simp only [Act.put, List.setIfInBounds_toArray, List.set_cons_zero, List.set_cons_succ]
          refine take (i := 12) (d := some 46) (v := .pointer (some ⟨b, off + j * 6, none⟩)) rfl (by kernel_rfl) (by kernel_rfl) (by kernel_rfl) (by kernel_rfl) (fun _ _ _ h => h) (Or.inl ⟨by rfl, by intro w hSw; go_simp⟩) hHeld ?_
          simp only [Act.put, List.setIfInBounds_toArray, List.set_cons_zero, List.set_cons_succ]
          refine take (i := 13) (d := some 47) (v := .agg #[.int .i64 y.ep, .int .i64 y.pr, .slice y.aV y.V.length y.cV, .slice y.aM y.M.length y.cM, .slice y.aA y.A.length y.cA, .int .i64 y.h]) rfl (by kernel_rfl) (by kernel_rfl) (by kernel_rfl) (by kernel_rfl) (fun _ _ _ h => h) (Or.inl ⟨by rfl, by intro w hSw; obtain ⟨p0, p1, c0, c1, c2, c3, c4, c5, d0, d1, d2, d3, d4, d5⟩ := hSw; go_simp⟩) hHeld ?_
          simp only [Act.put, List.setIfInBounds_toArray, List.set_cons_zero, List.set_cons_succ]
          refine wpAnyH_ready (rs := [14]) (by kernel_rfl) (by simp) (Rg.call2 (i := 14) rfl (by rfl) 84 (.tmp 41) (.tmp 47) 41 41 (by kernel_rfl) 48 (by kernel_rfl) _ _ (by kernel_rfl) (by kernel_rfl) (fun _ => rfl) (hcall _) ?_ AllReadyH.nil)
          rintro e1 w1 ⟨rfl, hb⟩
          refine ⟨_, rfl, ⟨(hb.cell (by exact bt)).trans p0, (hb.cell (by exact bt)).trans p1, (hb.cell (by exact bl)).trans c0, (hb.cell (by exact bl)).trans c1, (hb.cell (by exact bl)).trans c2, (hb.cell (by exact bl)).trans c3, (hb.cell (by exact bl)).trans c4, (hb.cell (by exact bl)).trans c5, (hb.cell (by exact bl)).trans d0, (hb.cell (by exact bl)).trans d1, (hb.cell (by exact bl)).trans d2, (hb.cell (by exact bl)).trans d3, (hb.cell (by exact bl)).trans d4, (hb.cell (by exact bl)).trans d5⟩, fun hHeld => ?_⟩
          simp only [Act.put, List.setIfInBounds_toArray, List.set_cons_zero, List.set_cons_succ]
          refine take (i := 15) (d := some 49) (v := .bool false) rfl (by kernel_rfl) (by kernel_rfl) (by kernel_rfl) (by kernel_rfl) (fun _ _ _ h => h) (Or.inl ⟨by rfl, by intro w hSw; go_simp⟩) hHeld ?_
          simp only [Act.put, List.setIfInBounds_toArray, List.set_cons_zero, List.set_cons_succ]
          refine wpAnyH_done (by kernel_rfl) ?_ _
          replace kT := (hb.block _ bt).trans kT
          replace hbel := Rw.next (by repeat (first | exact hbel | apply Below.drew)) hb
          clear hb c0 c1 c2 c3 c4 c5 d0 d1 d2 d3 d4 d5 p0 p1 hcall ok bl bt
          have HSo := HS1.out (fun j' hj' => by
            have e1 : j' = j := by have := HJ.out; omega
            rw [e1, HY.out]; exact HRk.out)
          have HSo1 : Hid (∀ j, j + 1 < i + 1 → ¬ rk (Q.getD (j + 1) e0) (Q.getD j e0) < 0) := HSo
          clear HSo HS1
          go_wp2
          go_loopw [4] (fun u wr => ∃ (z : Int) (k : Nat), z + 1 = k ∧ k ≤ i ∧ u = .int .i64 z ∧ Below w.heap.size w wr ∧ wr.heap[w.heap.size]? = some (.cells #[.int .i64 q, .slice (some ⟨b, off, none⟩) n cap] 38 (0, 0)) ∧ ∀ m, k ≤ m → m < i → ¬ (rk (Q.getD m e0) x = 0 ∧ (Q.getD m e0).V = x.V ∧ (Q.getD m e0).M = x.M)) (fun u _ => (intOf u + 1).toNat)
          case atStart => exact ⟨j, i, by omega, Nat.le_refl _, by first | rfl | go_num, hbel, kT, fun m h1 h2 => by omega⟩
          case round =>
            clear kT hbel
            obtain ⟨z, k, hzk, hki, rfl, hbel, kT, hinn⟩ := hrel
            have HI : Hid (∀ m, k ≤ m → m < i → ¬ (rk (Q.getD m e0) x = 0 ∧ (Q.getD m e0).V = x.V ∧ (Q.getD m e0).M = x.M)) := hinn
            clear hinn hj1 hjz hwj
            obtain ⟨p0, p1⟩ := Pm.two kT
            have bt := blk_lt kT
            have fin : (∀ m, m < i → ¬ (rk (Q.getD m e0) x = 0 ∧ (Q.getD m e0).V = x.V ∧ (Q.getD m e0).M = x.M)) → Upto Q (i + 1) := by
              intro hall
              refine ⟨HRi.out, fun j hj => by have := HSo1.out j hj; omega, fun m m' h1 h2 h3 h4 => ?_⟩
              by_cases e1 : m' = i
              · subst e1
                rw [HX.out] at h3 h4
                exact hall m h1 ⟨h3, h4⟩
              · exact HU.out.once m m' h1 (by omega) h3 h4
            have HFi : Hid ((∀ m, m < i → ¬ (rk (Q.getD m e0) x = 0 ∧ (Q.getD m e0).V = x.V ∧ (Q.getD m e0).M = x.M)) → Upto Q (i + 1)) := fin
            clear fin
            rcases Nat.eq_zero_or_pos k with hk0 | hk0
            · obtain rfl : z = -1 := by omega
              go_wp2
              refine wp_region_held_drew (S := (fun _ => True)) (by kernel_rfl) trivial (fun hHeld => ?_)
              refine take (i := 0) (d := some 52) (v := .int .i64 (-1)) rfl (by kernel_rfl) (by kernel_rfl) (by kernel_rfl) (by kernel_rfl) (fun _ _ _ h => h) (Or.inl ⟨by rfl, by intro w hSw; go_simp⟩) hHeld ?_
              simp only [Act.put, List.setIfInBounds_toArray, List.set_cons_zero, List.set_cons_succ]
              refine take (i := 1) (d := some 53) (v := .bool false) rfl (by kernel_rfl) (by kernel_rfl) (by kernel_rfl) (by kernel_rfl) (fun _ _ _ h => h) (Or.inl ⟨by rfl, by intro w hSw; go_simp⟩) hHeld ?_
              simp only [Act.put, List.setIfInBounds_toArray, List.set_cons_zero, List.set_cons_succ]
              refine take (i := 2) (d := some 54) (v := .bool false) rfl (by kernel_rfl) (by kernel_rfl) (by kernel_rfl) (by kernel_rfl) (fun _ _ _ h => h) (Or.inl ⟨by rfl, by intro w hSw; go_simp⟩) hHeld ?_
              simp only [Act.put, List.setIfInBounds_toArray, List.set_cons_zero, List.set_cons_succ]
              refine take (i := 3) (d := some 55) (v := undef) rfl (by kernel_rfl) (by kernel_rfl) (by kernel_rfl) (by kernel_rfl) (fun _ _ _ h => h) (Or.inr ⟨by rfl, rfl⟩) hHeld ?_
              simp only [Act.put, List.setIfInBounds_toArray, List.set_cons_zero, List.set_cons_succ]
              refine take (i := 4) (d := some 56) (v := undef) rfl (by kernel_rfl) (by kernel_rfl) (by kernel_rfl) (by kernel_rfl) (fun _ _ _ h => h) (Or.inr ⟨by rfl, rfl⟩) hHeld ?_
              simp only [Act.put, List.setIfInBounds_toArray, List.set_cons_zero, List.set_cons_succ]
              refine take (i := 5) (d := some 57) (v := undef) rfl (by kernel_rfl) (by kernel_rfl) (by kernel_rfl) (by kernel_rfl) (fun _ _ _ h => h) (Or.inr ⟨by rfl, rfl⟩) hHeld ?_
              simp only [Act.put, List.setIfInBounds_toArray, List.set_cons_zero, List.set_cons_succ]
              refine take (i := 6) (d := some 58) (v := undef) rfl (by kernel_rfl) (by kernel_rfl) (by kernel_rfl) (by kernel_rfl) (fun _ _ _ h => h) (Or.inr ⟨by rfl, rfl⟩) hHeld ?_
              simp only [Act.put, List.setIfInBounds_toArray, List.set_cons_zero, List.set_cons_succ]
              refine take (i := 7) (d := some 59) (v := undef) rfl (by kernel_rfl) (by kernel_rfl) (by kernel_rfl) (by kernel_rfl) (fun _ _ _ h => h) (Or.inr ⟨by rfl, rfl⟩) hHeld ?_
              simp only [Act.put, List.setIfInBounds_toArray, List.set_cons_zero, List.set_cons_succ]
              refine take (i := 8) (d := some 60) (v := undef) rfl (by kernel_rfl) (by kernel_rfl) (by kernel_rfl) (by kernel_rfl) (fun _ _ _ h => h) (Or.inr ⟨by rfl, rfl⟩) hHeld ?_
              simp only [Act.put, List.setIfInBounds_toArray, List.set_cons_zero, List.set_cons_succ]
              refine take (i := 9) (d := some 61) (v := undef) rfl (by kernel_rfl) (by kernel_rfl) (by kernel_rfl) (by kernel_rfl) (fun _ _ _ h => h) (Or.inr ⟨by rfl, rfl⟩) hHeld ?_
              simp only [Act.put, List.setIfInBounds_toArray, List.set_cons_zero, List.set_cons_succ]
              refine take (i := 10) (d := some 62) (v := undef) rfl (by kernel_rfl) (by kernel_rfl) (by kernel_rfl) (by kernel_rfl) (fun _ _ _ h => h) (Or.inr ⟨by rfl, rfl⟩) hHeld ?_
              simp only [Act.put, List.setIfInBounds_toArray, List.set_cons_zero, List.set_cons_succ]
              refine take (i := 11) (d := some 63) (v := undef) rfl (by kernel_rfl) (by kernel_rfl) (by kernel_rfl) (by kernel_rfl) (fun _ _ _ h => h) (Or.inr ⟨by rfl, rfl⟩) hHeld ?_
              simp only [Act.put, List.setIfInBounds_toArray, List.set_cons_zero, List.set_cons_succ]
              refine take (i := 12) (d := some 64) (v := undef) rfl (by kernel_rfl) (by kernel_rfl) (by kernel_rfl) (by kernel_rfl) (fun _ _ _ h => h) (Or.inr ⟨by rfl, rfl⟩) hHeld ?_
              simp only [Act.put, List.setIfInBounds_toArray, List.set_cons_zero, List.set_cons_succ]
              refine take (i := 13) (d := some 65) (v := undef) rfl (by kernel_rfl) (by kernel_rfl) (by kernel_rfl) (by kernel_rfl) (fun _ _ _ h => h) (Or.inr ⟨by rfl, rfl⟩) hHeld ?_
              simp only [Act.put, List.setIfInBounds_toArray, List.set_cons_zero, List.set_cons_succ]
              refine take (i := 14) (d := some 66) (v := undef) rfl (by kernel_rfl) (by kernel_rfl) (by kernel_rfl) (by kernel_rfl) (fun _ _ _ h => h) (Or.inr ⟨by rfl, rfl⟩) hHeld ?_
              simp only [Act.put, List.setIfInBounds_toArray, List.set_cons_zero, List.set_cons_succ]
              refine take (i := 15) (d := some 67) (v := .bool false) rfl (by kernel_rfl) (by kernel_rfl) (by kernel_rfl) (by kernel_rfl) (fun _ _ _ h => h) (Or.inl ⟨by rfl, by intro w hSw; go_simp⟩) hHeld ?_
              simp only [Act.put, List.setIfInBounds_toArray, List.set_cons_zero, List.set_cons_succ]
              refine wpAnyH_done (by kernel_rfl) ?_ _
              go_wp2
              go_roundw
              case rel => exact ⟨i + 1, by omega, by go_num, by repeat (first | exact hbel | apply Below.drew), kT, HFi.out (fun m hm => HI.out m (by omega) hm)⟩
              case measure => simp [intOf]; omega
            · obtain ⟨j', hj'⟩ : ∃ j', k = j' + 1 := ⟨k - 1, by omega⟩
              obtain rfl : z = (j' : Int) := by omega
              clear hjn HY HRk HJ
              obtain ⟨j, hj⟩ : ∃ j, j = j' := ⟨_, rfl⟩
              subst hj
              have hjn : j < n := by omega
              have hj0 : (j : Int) ≥ 0 := by omega
              have hjz : (j : Int) < (n : Int) := by omega
              obtain ⟨c0, c1, c2, c3, c4, c5⟩ := ((hc i hlt).of hbel (At6.lt (hc i hlt))).six
              rw [HX.out] at c0 c1 c2 c3 c4 c5
              obtain ⟨d0, d1, d2, d3, d4, d5⟩ := ((hc j hjn).of hbel (At6.lt (hc j hjn))).six
              have oky := (ho j hjn).of hbel (Nat.le_refl _)
              have okx := (ho i hlt).of hbel (Nat.le_refl _)
              rw [HX.out] at okx
              have bl : b < wr.heap.size := World.block_lt_of_cell? _ _ c0
              obtain ⟨y, hy⟩ : ∃ y, y = Q.getD j e0 := ⟨_, rfl⟩
              rw [← hy] at d0 d1 d2 d3 d4 d5 oky
              have HY : Hid (Q.getD j e0 = y) := hy.symm
              have HJ : Hid (k = j + 1) := hj'
              clear hy hj'
              have ey : enB y.said = true := by rw [← HY.out]; exact HRi.out j (by omega)
              have ex := HE.out
              by_cases hr : rk y x < 0
              · have hcall := fun W => aheadS y x W true (by simp [hr])
                have HRk : Hid (rk y x < 0) := hr
                clear hr
                go_wp2
                refine wp_region_held_drew (S := (fun w' => w'.cell? ⟨w.heap.size, 0, none⟩ = some (.int .i64 q) ∧ w'.cell? ⟨w.heap.size, 1, none⟩ = some (.slice (some ⟨b, off, none⟩) n cap) ∧ w'.cell? ⟨b, off + i * 6, none⟩ = some (.int .i64 x.ep) ∧ w'.cell? ⟨b, off + i * 6 + 1, none⟩ = some (.int .i64 x.pr) ∧ w'.cell? ⟨b, off + i * 6 + 2, none⟩ = some (.slice x.aV x.V.length x.cV) ∧ w'.cell? ⟨b, off + i * 6 + 3, none⟩ = some (.slice x.aM x.M.length x.cM) ∧ w'.cell? ⟨b, off + i * 6 + 4, none⟩ = some (.slice x.aA x.A.length x.cA) ∧ w'.cell? ⟨b, off + i * 6 + 5, none⟩ = some (.int .i64 x.h) ∧ w'.cell? ⟨b, off + j * 6, none⟩ = some (.int .i64 y.ep) ∧ w'.cell? ⟨b, off + j * 6 + 1, none⟩ = some (.int .i64 y.pr) ∧ w'.cell? ⟨b, off + j * 6 + 2, none⟩ = some (.slice y.aV y.V.length y.cV) ∧ w'.cell? ⟨b, off + j * 6 + 3, none⟩ = some (.slice y.aM y.M.length y.cM) ∧ w'.cell? ⟨b, off + j * 6 + 4, none⟩ = some (.slice y.aA y.A.length y.cA) ∧ w'.cell? ⟨b, off + j * 6 + 5, none⟩ = some (.int .i64 y.h))) (by kernel_rfl) ⟨p0, p1, c0, c1, c2, c3, c4, c5, d0, d1, d2, d3, d4, d5⟩ (fun hHeld => ?_)
                refine take (i := 0) (d := some 52) (v := .int .i64 j) rfl (by kernel_rfl) (by kernel_rfl) (by kernel_rfl) (by kernel_rfl) (fun _ _ _ h => h) (Or.inl ⟨by rfl, by intro w hSw; go_simp⟩) hHeld ?_
                simp only [Act.put, List.setIfInBounds_toArray, List.set_cons_zero, List.set_cons_succ]
                refine take (i := 1) (d := some 53) (v := .bool true) rfl (by kernel_rfl) (by kernel_rfl) (by kernel_rfl) (by kernel_rfl) (fun _ _ _ h => h) (Or.inl ⟨by rfl, by intro w hSw; go_simp⟩) hHeld ?_
                simp only [Act.put, List.setIfInBounds_toArray, List.set_cons_zero, List.set_cons_succ]
                refine take (i := 2) (d := some 54) (v := .bool true) rfl (by kernel_rfl) (by kernel_rfl) (by kernel_rfl) (by kernel_rfl) (fun _ _ _ h => h) (Or.inl ⟨by rfl, by intro w hSw; go_simp⟩) hHeld ?_
                simp only [Act.put, List.setIfInBounds_toArray, List.set_cons_zero, List.set_cons_succ]
                refine take (i := 3) (d := some 55) (v := .pointer (some ⟨w.heap.size, 1, none⟩)) rfl (by kernel_rfl) (by kernel_rfl) (by kernel_rfl) (by kernel_rfl) (fun _ _ _ h => h) (Or.inl ⟨by rfl, by intro w hSw; go_simp⟩) hHeld ?_
                simp only [Act.put, List.setIfInBounds_toArray, List.set_cons_zero, List.set_cons_succ]
                refine take (i := 4) (d := some 56) (v := .slice (some ⟨b, off, none⟩) n cap) rfl (by kernel_rfl) (by kernel_rfl) (by kernel_rfl) (by kernel_rfl) (fun _ _ _ h => h) (Or.inl ⟨by rfl, by intro w hSw; obtain ⟨p0, p1, c0, c1, c2, c3, c4, c5, d0, d1, d2, d3, d4, d5⟩ := hSw; go_simp⟩) hHeld ?_
                simp only [Act.put, List.setIfInBounds_toArray, List.set_cons_zero, List.set_cons_succ]
                refine take (i := 5) (d := some 57) (v := .int .i64 j) rfl (by kernel_rfl) (by kernel_rfl) (by kernel_rfl) (by kernel_rfl) (fun _ _ _ h => h) (Or.inl ⟨by rfl, by intro w hSw; go_simp⟩) hHeld ?_
                simp only [Act.put, List.setIfInBounds_toArray, List.set_cons_zero, List.set_cons_succ]
                refine take (i := 6) (d := some 58) (v := .pointer (some ⟨b, off + j * 6, none⟩)) rfl (by kernel_rfl) (by kernel_rfl) (by kernel_rfl) (by kernel_rfl) (fun _ _ _ h => h) (Or.inl ⟨by rfl, by intro w hSw; go_simp⟩) hHeld ?_
                simp only [Act.put, List.setIfInBounds_toArray, List.set_cons_zero, List.set_cons_succ]
                refine take (i := 7) (d := some 59) (v := .agg #[.int .i64 y.ep, .int .i64 y.pr, .slice y.aV y.V.length y.cV, .slice y.aM y.M.length y.cM, .slice y.aA y.A.length y.cA, .int .i64 y.h]) rfl (by kernel_rfl) (by kernel_rfl) (by kernel_rfl) (by kernel_rfl) (fun _ _ _ h => h) (Or.inl ⟨by rfl, by intro w hSw; obtain ⟨p0, p1, c0, c1, c2, c3, c4, c5, d0, d1, d2, d3, d4, d5⟩ := hSw; go_simp⟩) hHeld ?_
                simp only [Act.put, List.setIfInBounds_toArray, List.set_cons_zero, List.set_cons_succ]
                refine take (i := 8) (d := some 60) (v := .pointer (some ⟨w.heap.size, 1, none⟩)) rfl (by kernel_rfl) (by kernel_rfl) (by kernel_rfl) (by kernel_rfl) (fun _ _ _ h => h) (Or.inl ⟨by rfl, by intro w hSw; go_simp⟩) hHeld ?_
                simp only [Act.put, List.setIfInBounds_toArray, List.set_cons_zero, List.set_cons_succ]
                refine take (i := 9) (d := some 61) (v := .slice (some ⟨b, off, none⟩) n cap) rfl (by kernel_rfl) (by kernel_rfl) (by kernel_rfl) (by kernel_rfl) (fun _ _ _ h => h) (Or.inl ⟨by rfl, by intro w hSw; obtain ⟨p0, p1, c0, c1, c2, c3, c4, c5, d0, d1, d2, d3, d4, d5⟩ := hSw; go_simp⟩) hHeld ?_
                simp only [Act.put, List.setIfInBounds_toArray, List.set_cons_zero, List.set_cons_succ]
                refine take (i := 10) (d := some 62) (v := .int .i64 i) rfl (by kernel_rfl) (by kernel_rfl) (by kernel_rfl) (by kernel_rfl) (fun _ _ _ h => h) (Or.inl ⟨by rfl, by intro w hSw; go_simp⟩) hHeld ?_
                simp only [Act.put, List.setIfInBounds_toArray, List.set_cons_zero, List.set_cons_succ]
                refine take (i := 11) (d := some 63) (v := .pointer (some ⟨b, off + i * 6, none⟩)) rfl (by kernel_rfl) (by kernel_rfl) (by kernel_rfl) (by kernel_rfl) (fun _ _ _ h => h) (Or.inl ⟨by rfl, by intro w hSw; go_simp⟩) hHeld ?_
                simp only [Act.put, List.setIfInBounds_toArray, List.set_cons_zero, List.set_cons_succ]
                refine take (i := 12) (d := some 64) (v := .agg #[.int .i64 x.ep, .int .i64 x.pr, .slice x.aV x.V.length x.cV, .slice x.aM x.M.length x.cM, .slice x.aA x.A.length x.cA, .int .i64 x.h]) rfl (by kernel_rfl) (by kernel_rfl) (by kernel_rfl) (by kernel_rfl) (fun _ _ _ h => h) (Or.inl ⟨by rfl, by intro w hSw; obtain ⟨p0, p1, c0, c1, c2, c3, c4, c5, d0, d1, d2, d3, d4, d5⟩ := hSw; go_simp⟩) hHeld ?_
                simp only [Act.put, List.setIfInBounds_toArray, List.set_cons_zero, List.set_cons_succ]
                refine wpAnyH_ready (rs := [13]) (by kernel_rfl) (by simp) (Rg.call2 (i := 13) rfl (by rfl) 84 (.tmp 59) (.tmp 64) 41 41 (by kernel_rfl) 65 (by kernel_rfl) _ _ (by kernel_rfl) (by kernel_rfl) (fun _ => rfl) (hcall _) ?_ AllReadyH.nil)
                rintro e1 w1 ⟨rfl, hb⟩
                refine ⟨_, rfl, ⟨(hb.cell (by exact bt)).trans p0, (hb.cell (by exact bt)).trans p1, (hb.cell (by exact bl)).trans c0, (hb.cell (by exact bl)).trans c1, (hb.cell (by exact bl)).trans c2, (hb.cell (by exact bl)).trans c3, (hb.cell (by exact bl)).trans c4, (hb.cell (by exact bl)).trans c5, (hb.cell (by exact bl)).trans d0, (hb.cell (by exact bl)).trans d1, (hb.cell (by exact bl)).trans d2, (hb.cell (by exact bl)).trans d3, (hb.cell (by exact bl)).trans d4, (hb.cell (by exact bl)).trans d5⟩, fun hHeld => ?_⟩
                simp only [Act.put, List.setIfInBounds_toArray, List.set_cons_zero, List.set_cons_succ]
                refine take (i := 14) (d := some 66) (v := .bool false) rfl (by kernel_rfl) (by kernel_rfl) (by kernel_rfl) (by kernel_rfl) (fun _ _ _ h => h) (Or.inl ⟨by rfl, by intro w hSw; go_simp⟩) hHeld ?_
                simp only [Act.put, List.setIfInBounds_toArray, List.set_cons_zero, List.set_cons_succ]
                refine take (i := 15) (d := some 67) (v := .bool false) rfl (by kernel_rfl) (by kernel_rfl) (by kernel_rfl) (by kernel_rfl) (fun _ _ _ h => h) (Or.inl ⟨by rfl, by intro w hSw; go_simp⟩) hHeld ?_
                simp only [Act.put, List.setIfInBounds_toArray, List.set_cons_zero, List.set_cons_succ]
                refine wpAnyH_done (by kernel_rfl) ?_ _
                replace kT := (hb.block _ bt).trans kT
                go_wp2
                go_roundw
                case rel => exact ⟨i + 1, by omega, by go_num, Rw.next (by repeat (first | exact hbel | apply Below.drew)) hb, kT, HFi.out (fun m hm => by
                  rcases Nat.lt_or_ge m k with h1 | h1
                  · rintro ⟨e1, _⟩
                    have a1 := HU.out.le (i := m) (j := j) (by have := HJ.out; omega) (by have := HJ.out; omega)
                    have a2 := HRk.out
                    rw [HY.out] at a1
                    rw [rk_lt] at a1 a2
                    rw [rk_eq] at e1
                    omega
                  · exact HI.out m h1 hm)⟩
                case measure => simp [intOf]; omega
              · have hcall := fun W => aheadS y x W false (by simp [hr])
                have HRk : Hid (¬ rk y x < 0) := hr
                clear hr
                go_wp2
                refine wp_region_held_drew (S := (fun w' => w'.cell? ⟨w.heap.size, 0, none⟩ = some (.int .i64 q) ∧ w'.cell? ⟨w.heap.size, 1, none⟩ = some (.slice (some ⟨b, off, none⟩) n cap) ∧ w'.cell? ⟨b, off + i * 6, none⟩ = some (.int .i64 x.ep) ∧ w'.cell? ⟨b, off + i * 6 + 1, none⟩ = some (.int .i64 x.pr) ∧ w'.cell? ⟨b, off + i * 6 + 2, none⟩ = some (.slice x.aV x.V.length x.cV) ∧ w'.cell? ⟨b, off + i * 6 + 3, none⟩ = some (.slice x.aM x.M.length x.cM) ∧ w'.cell? ⟨b, off + i * 6 + 4, none⟩ = some (.slice x.aA x.A.length x.cA) ∧ w'.cell? ⟨b, off + i * 6 + 5, none⟩ = some (.int .i64 x.h) ∧ w'.cell? ⟨b, off + j * 6, none⟩ = some (.int .i64 y.ep) ∧ w'.cell? ⟨b, off + j * 6 + 1, none⟩ = some (.int .i64 y.pr) ∧ w'.cell? ⟨b, off + j * 6 + 2, none⟩ = some (.slice y.aV y.V.length y.cV) ∧ w'.cell? ⟨b, off + j * 6 + 3, none⟩ = some (.slice y.aM y.M.length y.cM) ∧ w'.cell? ⟨b, off + j * 6 + 4, none⟩ = some (.slice y.aA y.A.length y.cA) ∧ w'.cell? ⟨b, off + j * 6 + 5, none⟩ = some (.int .i64 y.h))) (by kernel_rfl) ⟨p0, p1, c0, c1, c2, c3, c4, c5, d0, d1, d2, d3, d4, d5⟩ (fun hHeld => ?_)
                refine take (i := 0) (d := some 52) (v := .int .i64 j) rfl (by kernel_rfl) (by kernel_rfl) (by kernel_rfl) (by kernel_rfl) (fun _ _ _ h => h) (Or.inl ⟨by rfl, by intro w hSw; go_simp⟩) hHeld ?_
                simp only [Act.put, List.setIfInBounds_toArray, List.set_cons_zero, List.set_cons_succ]
                refine take (i := 1) (d := some 53) (v := .bool true) rfl (by kernel_rfl) (by kernel_rfl) (by kernel_rfl) (by kernel_rfl) (fun _ _ _ h => h) (Or.inl ⟨by rfl, by intro w hSw; go_simp⟩) hHeld ?_
                simp only [Act.put, List.setIfInBounds_toArray, List.set_cons_zero, List.set_cons_succ]
                refine take (i := 2) (d := some 54) (v := .bool true) rfl (by kernel_rfl) (by kernel_rfl) (by kernel_rfl) (by kernel_rfl) (fun _ _ _ h => h) (Or.inl ⟨by rfl, by intro w hSw; go_simp⟩) hHeld ?_
                simp only [Act.put, List.setIfInBounds_toArray, List.set_cons_zero, List.set_cons_succ]
                refine take (i := 3) (d := some 55) (v := .pointer (some ⟨w.heap.size, 1, none⟩)) rfl (by kernel_rfl) (by kernel_rfl) (by kernel_rfl) (by kernel_rfl) (fun _ _ _ h => h) (Or.inl ⟨by rfl, by intro w hSw; go_simp⟩) hHeld ?_
                simp only [Act.put, List.setIfInBounds_toArray, List.set_cons_zero, List.set_cons_succ]
                refine take (i := 4) (d := some 56) (v := .slice (some ⟨b, off, none⟩) n cap) rfl (by kernel_rfl) (by kernel_rfl) (by kernel_rfl) (by kernel_rfl) (fun _ _ _ h => h) (Or.inl ⟨by rfl, by intro w hSw; obtain ⟨p0, p1, c0, c1, c2, c3, c4, c5, d0, d1, d2, d3, d4, d5⟩ := hSw; go_simp⟩) hHeld ?_
                simp only [Act.put, List.setIfInBounds_toArray, List.set_cons_zero, List.set_cons_succ]
                refine take (i := 5) (d := some 57) (v := .int .i64 j) rfl (by kernel_rfl) (by kernel_rfl) (by kernel_rfl) (by kernel_rfl) (fun _ _ _ h => h) (Or.inl ⟨by rfl, by intro w hSw; go_simp⟩) hHeld ?_
                simp only [Act.put, List.setIfInBounds_toArray, List.set_cons_zero, List.set_cons_succ]
                refine take (i := 6) (d := some 58) (v := .pointer (some ⟨b, off + j * 6, none⟩)) rfl (by kernel_rfl) (by kernel_rfl) (by kernel_rfl) (by kernel_rfl) (fun _ _ _ h => h) (Or.inl ⟨by rfl, by intro w hSw; go_simp⟩) hHeld ?_
                simp only [Act.put, List.setIfInBounds_toArray, List.set_cons_zero, List.set_cons_succ]
                refine take (i := 7) (d := some 59) (v := .agg #[.int .i64 y.ep, .int .i64 y.pr, .slice y.aV y.V.length y.cV, .slice y.aM y.M.length y.cM, .slice y.aA y.A.length y.cA, .int .i64 y.h]) rfl (by kernel_rfl) (by kernel_rfl) (by kernel_rfl) (by kernel_rfl) (fun _ _ _ h => h) (Or.inl ⟨by rfl, by intro w hSw; obtain ⟨p0, p1, c0, c1, c2, c3, c4, c5, d0, d1, d2, d3, d4, d5⟩ := hSw; go_simp⟩) hHeld ?_
                simp only [Act.put, List.setIfInBounds_toArray, List.set_cons_zero, List.set_cons_succ]
                refine take (i := 8) (d := some 60) (v := .pointer (some ⟨w.heap.size, 1, none⟩)) rfl (by kernel_rfl) (by kernel_rfl) (by kernel_rfl) (by kernel_rfl) (fun _ _ _ h => h) (Or.inl ⟨by rfl, by intro w hSw; go_simp⟩) hHeld ?_
                simp only [Act.put, List.setIfInBounds_toArray, List.set_cons_zero, List.set_cons_succ]
                refine take (i := 9) (d := some 61) (v := .slice (some ⟨b, off, none⟩) n cap) rfl (by kernel_rfl) (by kernel_rfl) (by kernel_rfl) (by kernel_rfl) (fun _ _ _ h => h) (Or.inl ⟨by rfl, by intro w hSw; obtain ⟨p0, p1, c0, c1, c2, c3, c4, c5, d0, d1, d2, d3, d4, d5⟩ := hSw; go_simp⟩) hHeld ?_
                simp only [Act.put, List.setIfInBounds_toArray, List.set_cons_zero, List.set_cons_succ]
                refine take (i := 10) (d := some 62) (v := .int .i64 i) rfl (by kernel_rfl) (by kernel_rfl) (by kernel_rfl) (by kernel_rfl) (fun _ _ _ h => h) (Or.inl ⟨by rfl, by intro w hSw; go_simp⟩) hHeld ?_
                simp only [Act.put, List.setIfInBounds_toArray, List.set_cons_zero, List.set_cons_succ]
                refine take (i := 11) (d := some 63) (v := .pointer (some ⟨b, off + i * 6, none⟩)) rfl (by kernel_rfl) (by kernel_rfl) (by kernel_rfl) (by kernel_rfl) (fun _ _ _ h => h) (Or.inl ⟨by rfl, by intro w hSw; go_simp⟩) hHeld ?_
                simp only [Act.put, List.setIfInBounds_toArray, List.set_cons_zero, List.set_cons_succ]
                refine take (i := 12) (d := some 64) (v := .agg #[.int .i64 x.ep, .int .i64 x.pr, .slice x.aV x.V.length x.cV, .slice x.aM x.M.length x.cM, .slice x.aA x.A.length x.cA, .int .i64 x.h]) rfl (by kernel_rfl) (by kernel_rfl) (by kernel_rfl) (by kernel_rfl) (fun _ _ _ h => h) (Or.inl ⟨by rfl, by intro w hSw; obtain ⟨p0, p1, c0, c1, c2, c3, c4, c5, d0, d1, d2, d3, d4, d5⟩ := hSw; go_simp⟩) hHeld ?_
                simp only [Act.put, List.setIfInBounds_toArray, List.set_cons_zero, List.set_cons_succ]
                refine wpAnyH_ready (rs := [13]) (by kernel_rfl) (by simp) (Rg.call2 (i := 13) rfl (by rfl) 84 (.tmp 59) (.tmp 64) 41 41 (by kernel_rfl) 65 (by kernel_rfl) _ _ (by kernel_rfl) (by kernel_rfl) (fun _ => rfl) (hcall _) ?_ AllReadyH.nil)
                rintro e1 w1 ⟨rfl, hb⟩
                refine ⟨_, rfl, ⟨(hb.cell (by exact bt)).trans p0, (hb.cell (by exact bt)).trans p1, (hb.cell (by exact bl)).trans c0, (hb.cell (by exact bl)).trans c1, (hb.cell (by exact bl)).trans c2, (hb.cell (by exact bl)).trans c3, (hb.cell (by exact bl)).trans c4, (hb.cell (by exact bl)).trans c5, (hb.cell (by exact bl)).trans d0, (hb.cell (by exact bl)).trans d1, (hb.cell (by exact bl)).trans d2, (hb.cell (by exact bl)).trans d3, (hb.cell (by exact bl)).trans d4, (hb.cell (by exact bl)).trans d5⟩, fun hHeld => ?_⟩
                simp only [Act.put, List.setIfInBounds_toArray, List.set_cons_zero, List.set_cons_succ]
                refine take (i := 14) (d := some 66) (v := .bool true) rfl (by kernel_rfl) (by kernel_rfl) (by kernel_rfl) (by kernel_rfl) (fun _ _ _ h => h) (Or.inl ⟨by rfl, by intro w hSw; go_simp⟩) hHeld ?_
                simp only [Act.put, List.setIfInBounds_toArray, List.set_cons_zero, List.set_cons_succ]
                refine take (i := 15) (d := some 67) (v := .bool true) rfl (by kernel_rfl) (by kernel_rfl) (by kernel_rfl) (by kernel_rfl) (fun _ _ _ h => h) (Or.inl ⟨by rfl, by intro w hSw; go_simp⟩) hHeld ?_
                simp only [Act.put, List.setIfInBounds_toArray, List.set_cons_zero, List.set_cons_succ]
                refine wpAnyH_done (by kernel_rfl) ?_ _
                replace kT := (hb.block _ bt).trans kT
                have hb0 := Rw.next ((Below.refl wr.heap.size wr).drew) hb
                replace hbel := Rw.next hbel hb0
                replace okx := okx.below hb0
                replace oky := oky.below hb0
                clear c0 c1 c2 c3 c4 c5 d0 d1 d2 d3 d4 d5 p0 p1
                have bl2 := Nat.lt_of_lt_of_le bl hb0.size
                have bt2 := Nat.lt_of_lt_of_le bt hb0.size
                clear hb hb0 hcall bl bt
                obtain ⟨p0, p1⟩ := Pm.two kT
                obtain ⟨c0, c1, c2, c3, c4, c5⟩ := ((hc i hlt).of hbel (At6.lt (hc i hlt))).six
                rw [HX.out] at c0 c1 c2 c3 c4 c5
                obtain ⟨d0, d1, d2, d3, d4, d5⟩ := ((hc j hjn).of hbel (At6.lt (hc j hjn))).six
                rw [HY.out] at d0 d1 d2 d3 d4 d5
                obtain ⟨w3, hw3⟩ : ∃ w3, w3 = w1 := ⟨_, rfl⟩
                subst hw3
                have bl := bl2
                have bt := bt2
                by_cases hk : SameKey y.said x.said
                · have hcall := sameS y x w3.drew (oky.below ((Below.refl _ _).drew)) (okx.below ((Below.refl _ _).drew)) ey ex true (by simp [hk])
                  have HKe : Hid (SameKey y.said x.said) := hk
                  clear hk
                  go_wp2
                  refine wp_region_held_drew (S := (fun w' => w'.cell? ⟨w.heap.size, 0, none⟩ = some (.int .i64 q) ∧ w'.cell? ⟨w.heap.size, 1, none⟩ = some (.slice (some ⟨b, off, none⟩) n cap) ∧ w'.cell? ⟨b, off + i * 6, none⟩ = some (.int .i64 x.ep) ∧ w'.cell? ⟨b, off + i * 6 + 1, none⟩ = some (.int .i64 x.pr) ∧ w'.cell? ⟨b, off + i * 6 + 2, none⟩ = some (.slice x.aV x.V.length x.cV) ∧ w'.cell? ⟨b, off + i * 6 + 3, none⟩ = some (.slice x.aM x.M.length x.cM) ∧ w'.cell? ⟨b, off + i * 6 + 4, none⟩ = some (.slice x.aA x.A.length x.cA) ∧ w'.cell? ⟨b, off + i * 6 + 5, none⟩ = some (.int .i64 x.h) ∧ w'.cell? ⟨b, off + j * 6, none⟩ = some (.int .i64 y.ep) ∧ w'.cell? ⟨b, off + j * 6 + 1, none⟩ = some (.int .i64 y.pr) ∧ w'.cell? ⟨b, off + j * 6 + 2, none⟩ = some (.slice y.aV y.V.length y.cV) ∧ w'.cell? ⟨b, off + j * 6 + 3, none⟩ = some (.slice y.aM y.M.length y.cM) ∧ w'.cell? ⟨b, off + j * 6 + 4, none⟩ = some (.slice y.aA y.A.length y.cA) ∧ w'.cell? ⟨b, off + j * 6 + 5, none⟩ = some (.int .i64 y.h))) (by kernel_rfl) ⟨p0, p1, c0, c1, c2, c3, c4, c5, d0, d1, d2, d3, d4, d5⟩ (fun hHeld => ?_)
                  refine take (i := 0) (d := some 70) (v := .pointer (some ⟨w.heap.size, 1, none⟩)) rfl (by kernel_rfl) (by kernel_rfl) (by kernel_rfl) (by kernel_rfl) (fun _ _ _ h => h) (Or.inl ⟨by rfl, by intro w hSw; go_simp⟩) hHeld ?_
                  simp only [Act.put, List.setIfInBounds_toArray, List.set_cons_zero, List.set_cons_succ]
                  refine take (i := 1) (d := some 71) (v := .slice (some ⟨b, off, none⟩) n cap) rfl (by kernel_rfl) (by kernel_rfl) (by kernel_rfl) (by kernel_rfl) (fun _ _ _ h => h) (Or.inl ⟨by rfl, by intro w hSw; obtain ⟨p0, p1, c0, c1, c2, c3, c4, c5, d0, d1, d2, d3, d4, d5⟩ := hSw; go_simp⟩) hHeld ?_
                  simp only [Act.put, List.setIfInBounds_toArray, List.set_cons_zero, List.set_cons_succ]
                  refine take (i := 2) (d := some 72) (v := .int .i64 j) rfl (by kernel_rfl) (by kernel_rfl) (by kernel_rfl) (by kernel_rfl) (fun _ _ _ h => h) (Or.inl ⟨by rfl, by intro w hSw; go_simp⟩) hHeld ?_
                  simp only [Act.put, List.setIfInBounds_toArray, List.set_cons_zero, List.set_cons_succ]
                  refine take (i := 3) (d := some 73) (v := .pointer (some ⟨b, off + j * 6, none⟩)) rfl (by kernel_rfl) (by kernel_rfl) (by kernel_rfl) (by kernel_rfl) (fun _ _ _ h => h) (Or.inl ⟨by rfl, by intro w hSw; go_simp⟩) hHeld ?_
                  simp only [Act.put, List.setIfInBounds_toArray, List.set_cons_zero, List.set_cons_succ]
                  refine take (i := 4) (d := some 74) (v := .agg #[.int .i64 y.ep, .int .i64 y.pr, .slice y.aV y.V.length y.cV, .slice y.aM y.M.length y.cM, .slice y.aA y.A.length y.cA, .int .i64 y.h]) rfl (by kernel_rfl) (by kernel_rfl) (by kernel_rfl) (by kernel_rfl) (fun _ _ _ h => h) (Or.inl ⟨by rfl, by intro w hSw; obtain ⟨p0, p1, c0, c1, c2, c3, c4, c5, d0, d1, d2, d3, d4, d5⟩ := hSw; go_simp⟩) hHeld ?_
                  simp only [Act.put, List.setIfInBounds_toArray, List.set_cons_zero, List.set_cons_succ]
                  refine take (i := 5) (d := some 75) (v := .pointer (some ⟨w.heap.size, 1, none⟩)) rfl (by kernel_rfl) (by kernel_rfl) (by kernel_rfl) (by kernel_rfl) (fun _ _ _ h => h) (Or.inl ⟨by rfl, by intro w hSw; go_simp⟩) hHeld ?_
                  simp only [Act.put, List.setIfInBounds_toArray, List.set_cons_zero, List.set_cons_succ]
                  refine take (i := 6) (d := some 76) (v := .slice (some ⟨b, off, none⟩) n cap) rfl (by kernel_rfl) (by kernel_rfl) (by kernel_rfl) (by kernel_rfl) (fun _ _ _ h => h) (Or.inl ⟨by rfl, by intro w hSw; obtain ⟨p0, p1, c0, c1, c2, c3, c4, c5, d0, d1, d2, d3, d4, d5⟩ := hSw; go_simp⟩) hHeld ?_
                  simp only [Act.put, List.setIfInBounds_toArray, List.set_cons_zero, List.set_cons_succ]
                  refine take (i := 7) (d := some 77) (v := .int .i64 i) rfl (by kernel_rfl) (by kernel_rfl) (by kernel_rfl) (by kernel_rfl) (fun _ _ _ h => h) (Or.inl ⟨by rfl, by intro w hSw; go_simp⟩) hHeld ?_
                  simp only [Act.put, List.setIfInBounds_toArray, List.set_cons_zero, List.set_cons_succ]
                  refine take (i := 8) (d := some 78) (v := .pointer (some ⟨b, off + i * 6, none⟩)) rfl (by kernel_rfl) (by kernel_rfl) (by kernel_rfl) (by kernel_rfl) (fun _ _ _ h => h) (Or.inl ⟨by rfl, by intro w hSw; go_simp⟩) hHeld ?_
                  simp only [Act.put, List.setIfInBounds_toArray, List.set_cons_zero, List.set_cons_succ]
                  refine take (i := 9) (d := some 79) (v := .agg #[.int .i64 x.ep, .int .i64 x.pr, .slice x.aV x.V.length x.cV, .slice x.aM x.M.length x.cM, .slice x.aA x.A.length x.cA, .int .i64 x.h]) rfl (by kernel_rfl) (by kernel_rfl) (by kernel_rfl) (by kernel_rfl) (fun _ _ _ h => h) (Or.inl ⟨by rfl, by intro w hSw; obtain ⟨p0, p1, c0, c1, c2, c3, c4, c5, d0, d1, d2, d3, d4, d5⟩ := hSw; go_simp⟩) hHeld ?_
                  simp only [Act.put, List.setIfInBounds_toArray, List.set_cons_zero, List.set_cons_succ]
                  refine wpAnyH_ready (rs := [10]) (by kernel_rfl) (by simp) (Rg.call2 (i := 10) rfl (by rfl) 82 (.tmp 74) (.tmp 79) 41 41 (by kernel_rfl) 80 (by kernel_rfl) _ _ (by kernel_rfl) (by kernel_rfl) (fun _ => rfl) (hcall) ?_ AllReadyH.nil)
                  rintro e1 w1 ⟨rfl, hb⟩
                  refine ⟨_, rfl, ⟨(hb.cell (by exact bt)).trans p0, (hb.cell (by exact bt)).trans p1, (hb.cell (by exact bl)).trans c0, (hb.cell (by exact bl)).trans c1, (hb.cell (by exact bl)).trans c2, (hb.cell (by exact bl)).trans c3, (hb.cell (by exact bl)).trans c4, (hb.cell (by exact bl)).trans c5, (hb.cell (by exact bl)).trans d0, (hb.cell (by exact bl)).trans d1, (hb.cell (by exact bl)).trans d2, (hb.cell (by exact bl)).trans d3, (hb.cell (by exact bl)).trans d4, (hb.cell (by exact bl)).trans d5⟩, fun hHeld => ?_⟩
                  simp only [Act.put, List.setIfInBounds_toArray, List.set_cons_zero, List.set_cons_succ]
                  refine wpAnyH_done (by kernel_rfl) ?_ _
                  go_wp2
                  go_ret
                  exact ⟨ret_bool (no (¬ SameKey y.said x.said) (fun t hh => t.2.2.2.once j i (by have := HJ.out; omega) (by have := HN.out; omega) (by rw [HX.out, HY.out]; exact (said_same.1 hh).1) (by rw [HX.out, HY.out]; exact (said_same.1 hh).2)) (fun t => t HKe.out)), Rw.next (by repeat (first | exact hbel | apply Below.drew)) hb⟩
                · have hcall := sameS y x w3.drew (oky.below ((Below.refl _ _).drew)) (okx.below ((Below.refl _ _).drew)) ey ex false (by simp [hk])
                  have HKe : Hid (¬ SameKey y.said x.said) := hk
                  clear hk
                  go_wp2
                  refine wp_region_held_drew (S := (fun w' => w'.cell? ⟨w.heap.size, 0, none⟩ = some (.int .i64 q) ∧ w'.cell? ⟨w.heap.size, 1, none⟩ = some (.slice (some ⟨b, off, none⟩) n cap) ∧ w'.cell? ⟨b, off + i * 6, none⟩ = some (.int .i64 x.ep) ∧ w'.cell? ⟨b, off + i * 6 + 1, none⟩ = some (.int .i64 x.pr) ∧ w'.cell? ⟨b, off + i * 6 + 2, none⟩ = some (.slice x.aV x.V.length x.cV) ∧ w'.cell? ⟨b, off + i * 6 + 3, none⟩ = some (.slice x.aM x.M.length x.cM) ∧ w'.cell? ⟨b, off + i * 6 + 4, none⟩ = some (.slice x.aA x.A.length x.cA) ∧ w'.cell? ⟨b, off + i * 6 + 5, none⟩ = some (.int .i64 x.h) ∧ w'.cell? ⟨b, off + j * 6, none⟩ = some (.int .i64 y.ep) ∧ w'.cell? ⟨b, off + j * 6 + 1, none⟩ = some (.int .i64 y.pr) ∧ w'.cell? ⟨b, off + j * 6 + 2, none⟩ = some (.slice y.aV y.V.length y.cV) ∧ w'.cell? ⟨b, off + j * 6 + 3, none⟩ = some (.slice y.aM y.M.length y.cM) ∧ w'.cell? ⟨b, off + j * 6 + 4, none⟩ = some (.slice y.aA y.A.length y.cA) ∧ w'.cell? ⟨b, off + j * 6 + 5, none⟩ = some (.int .i64 y.h))) (by kernel_rfl) ⟨p0, p1, c0, c1, c2, c3, c4, c5, d0, d1, d2, d3, d4, d5⟩ (fun hHeld => ?_)
                  refine take (i := 0) (d := some 70) (v := .pointer (some ⟨w.heap.size, 1, none⟩)) rfl (by kernel_rfl) (by kernel_rfl) (by kernel_rfl) (by kernel_rfl) (fun _ _ _ h => h) (Or.inl ⟨by rfl, by intro w hSw; go_simp⟩) hHeld ?_
                  simp only [Act.put, List.setIfInBounds_toArray, List.set_cons_zero, List.set_cons_succ]
                  refine take (i := 1) (d := some 71) (v := .slice (some ⟨b, off, none⟩) n cap) rfl (by kernel_rfl) (by kernel_rfl) (by kernel_rfl) (by kernel_rfl) (fun _ _ _ h => h) (Or.inl ⟨by rfl, by intro w hSw; obtain ⟨p0, p1, c0, c1, c2, c3, c4, c5, d0, d1, d2, d3, d4, d5⟩ := hSw; go_simp⟩) hHeld ?_
                  simp only [Act.put, List.setIfInBounds_toArray, List.set_cons_zero, List.set_cons_succ]
                  refine take (i := 2) (d := some 72) (v := .int .i64 j) rfl (by kernel_rfl) (by kernel_rfl) (by kernel_rfl) (by kernel_rfl) (fun _ _ _ h => h) (Or.inl ⟨by rfl, by intro w hSw; go_simp⟩) hHeld ?_
                  simp only [Act.put, List.setIfInBounds_toArray, List.set_cons_zero, List.set_cons_succ]
                  refine take (i := 3) (d := some 73) (v := .pointer (some ⟨b, off + j * 6, none⟩)) rfl (by kernel_rfl) (by kernel_rfl) (by kernel_rfl) (by kernel_rfl) (fun _ _ _ h => h) (Or.inl ⟨by rfl, by intro w hSw; go_simp⟩) hHeld ?_
                  simp only [Act.put, List.setIfInBounds_toArray, List.set_cons_zero, List.set_cons_succ]
                  refine take (i := 4) (d := some 74) (v := .agg #[.int .i64 y.ep, .int .i64 y.pr, .slice y.aV y.V.length y.cV, .slice y.aM y.M.length y.cM, .slice y.aA y.A.length y.cA, .int .i64 y.h]) rfl (by kernel_rfl) (by kernel_rfl) (by kernel_rfl) (by kernel_rfl) (fun _ _ _ h => h) (Or.inl ⟨by rfl, by intro w hSw; obtain ⟨p0, p1, c0, c1, c2, c3, c4, c5, d0, d1, d2, d3, d4, d5⟩ := hSw; go_simp⟩) hHeld ?_
                  simp only [Act.put, List.setIfInBounds_toArray, List.set_cons_zero, List.set_cons_succ]
                  refine take (i := 5) (d := some 75) (v := .pointer (some ⟨w.heap.size, 1, none⟩)) rfl (by kernel_rfl) (by kernel_rfl) (by kernel_rfl) (by kernel_rfl) (fun _ _ _ h => h) (Or.inl ⟨by rfl, by intro w hSw; go_simp⟩) hHeld ?_
                  simp only [Act.put, List.setIfInBounds_toArray, List.set_cons_zero, List.set_cons_succ]
                  refine take (i := 6) (d := some 76) (v := .slice (some ⟨b, off, none⟩) n cap) rfl (by kernel_rfl) (by kernel_rfl) (by kernel_rfl) (by kernel_rfl) (fun _ _ _ h => h) (Or.inl ⟨by rfl, by intro w hSw; obtain ⟨p0, p1, c0, c1, c2, c3, c4, c5, d0, d1, d2, d3, d4, d5⟩ := hSw; go_simp⟩) hHeld ?_
                  simp only [Act.put, List.setIfInBounds_toArray, List.set_cons_zero, List.set_cons_succ]
                  refine take (i := 7) (d := some 77) (v := .int .i64 i) rfl (by kernel_rfl) (by kernel_rfl) (by kernel_rfl) (by kernel_rfl) (fun _ _ _ h => h) (Or.inl ⟨by rfl, by intro w hSw; go_simp⟩) hHeld ?_
                  simp only [Act.put, List.setIfInBounds_toArray, List.set_cons_zero, List.set_cons_succ]
                  refine take (i := 8) (d := some 78) (v := .pointer (some ⟨b, off + i * 6, none⟩)) rfl (by kernel_rfl) (by kernel_rfl) (by kernel_rfl) (by kernel_rfl) (fun _ _ _ h => h) (Or.inl ⟨by rfl, by intro w hSw; go_simp⟩) hHeld ?_
                  simp only [Act.put, List.setIfInBounds_toArray, List.set_cons_zero, List.set_cons_succ]
                  refine take (i := 9) (d := some 79) (v := .agg #[.int .i64 x.ep, .int .i64 x.pr, .slice x.aV x.V.length x.cV, .slice x.aM x.M.length x.cM, .slice x.aA x.A.length x.cA, .int .i64 x.h]) rfl (by kernel_rfl) (by kernel_rfl) (by kernel_rfl) (by kernel_rfl) (fun _ _ _ h => h) (Or.inl ⟨by rfl, by intro w hSw; obtain ⟨p0, p1, c0, c1, c2, c3, c4, c5, d0, d1, d2, d3, d4, d5⟩ := hSw; go_simp⟩) hHeld ?_
                  simp only [Act.put, List.setIfInBounds_toArray, List.set_cons_zero, List.set_cons_succ]
                  refine wpAnyH_ready (rs := [10]) (by kernel_rfl) (by simp) (Rg.call2 (i := 10) rfl (by rfl) 82 (.tmp 74) (.tmp 79) 41 41 (by kernel_rfl) 80 (by kernel_rfl) _ _ (by kernel_rfl) (by kernel_rfl) (fun _ => rfl) (hcall) ?_ AllReadyH.nil)
                  rintro e1 w1 ⟨rfl, hb⟩
                  refine ⟨_, rfl, ⟨(hb.cell (by exact bt)).trans p0, (hb.cell (by exact bt)).trans p1, (hb.cell (by exact bl)).trans c0, (hb.cell (by exact bl)).trans c1, (hb.cell (by exact bl)).trans c2, (hb.cell (by exact bl)).trans c3, (hb.cell (by exact bl)).trans c4, (hb.cell (by exact bl)).trans c5, (hb.cell (by exact bl)).trans d0, (hb.cell (by exact bl)).trans d1, (hb.cell (by exact bl)).trans d2, (hb.cell (by exact bl)).trans d3, (hb.cell (by exact bl)).trans d4, (hb.cell (by exact bl)).trans d5⟩, fun hHeld => ?_⟩
                  simp only [Act.put, List.setIfInBounds_toArray, List.set_cons_zero, List.set_cons_succ]
                  refine wpAnyH_done (by kernel_rfl) ?_ _
                  replace kT := (hb.block _ bt).trans kT
                  go_wp2
                  go_roundw
                  case rel => exact ⟨(j : Int) - 1, j, by omega, by have := HJ.out; omega, by first | rfl | go_num, Rw.next (by repeat (first | exact hbel | apply Below.drew)) hb, kT, fun m h1 h2 => by
                    by_cases e1 : m = j
                    · subst e1; rw [HY.out]; exact fun t => HKe.out (said_same.2 t)
                    · exact HI.out m (by have := HJ.out; omega) h2⟩
                  case measure => simp [intOf]
    · obtain rfl : i = n := by omega
      go_wp2
      go_ret
      refine ⟨ret_bool ?_, hbel⟩
      have := HN.out
      exact (HR.out.2 ⟨HQ.out.1, HQ.out.2.1, HQ.out.2.2, by rw [← this]; exact HU.out⟩).symm

end Go.Proofs.Ytcbgnfjnjfaacaa.Ka
namespace Go.Proofs.Ytcbgnfjnjfaacaa.Mj
set_option maxRecDepth 8000
open Go Go.RowKit
open Num Pl Hr Hh Hf Hg Pa Pm Po Pq Pe Mi
set_option linter.unusedSimpArgs false

theorem resMB_none {w w' : World} (h : Below w.heap.size w w') : ResMB w false [] [] (.returned (.tuple #[.agg #[.slice none 0 0, .slice none 0 0], .bool false])) w' :=
  ⟨none, w.heap.size, 0, none, w.heap.size + 1, 0, rfl, Wt.nil _ _ _, Wt.nil _ _ _, Nat.le_refl _, Nat.le_succ _, by omega, h⟩

set_option maxHeartbeats 2000000 in
theorem meet_wrong (a1 a2 a3 a4 : Option Addr) (n1 n2 n3 n4 c1 c2 c3 c4 : Nat) (x y x' y' : Nat → Int) (w : World) (h : Two a1 a2 a3 a4 n1 n2 n3 n4 c1 c2 c3 c4 x y x' y' false w) :
    Calls Try.prog 18 #[.agg #[.slice a1 n1 c1, .slice a2 n2 c2], .agg #[.slice a3 n3 c3, .slice a4 n4 c4]] w (ResMB w false [] []) := by
  have HT : Hid (Two a1 a2 a3 a4 n1 n2 n3 n4 c1 c2 c3 c4 x y x' y' false w) := h
  obtain ⟨W0, hW0⟩ : ∃ W0, W0 = (((w.alloc (.cells #[.slice a1 n1 c1, .slice a2 n2 c2] 25)).alloc (.cells #[.slice a3 n3 c3, .slice a4 n4 c4] 25)).alloc (.cells #[.slice none 0 0, .slice none 0 0] 25)) := ⟨_, rfl⟩
  have B : Below w.heap.size w W0 := by subst hW0; exact Rw.next (below2 _ _ _) (below_alloc1 _ _)
  have kR : W0.heap[w.heap.size + 1 + 1]? = some (.cells #[.slice none 0 0, .slice none 0 0] 25 (0, 0)) := by subst hW0; exact at_new (by simp)
  have zR : w.heap.size + 1 + 1 < W0.heap.size := (Array.getElem?_eq_some_iff.1 kR).1
  clear h
  have tok1 : True := trivial
  go_enter Try.func18, Try.ntmps18
  go_wp2_with (first
    | (go_at_call 64; rw [← hW0]; clear hW0; refine (HT.out _ B).mono ?_; rintro e wa ⟨rfl, hb⟩; have ZB := Nat.le_trans B.size hb.size; replace kR := (hb.block _ zR).trans kR; replace zR := Nat.lt_of_lt_of_le zR hb.size; replace B := Rw.next B hb; clear hb HT)
    | (clear tok1; refine store66 rfl _ _ rfl rfl rfl (has_old (has_zero rfl)) (fun w1 hX hS => ?_); have hZ := hS.has (has_zero (g := wa.heap.size + 1) (by simp)) (by simp); replace B := hS.below (Rw.next B (below2 _ _ _)) B.size; replace kR := (hS.block _ (Nat.ne_of_lt zR)).trans (((below2 _ _ _).block _ zR).trans kR); have tok2 : True := trivial; clear hS)
    | (clear tok2; refine store66 rfl _ _ rfl rfl rfl hZ (fun w2 hY hS => ?_); replace hX := hS.has hX (by simp); replace B := hS.below B (Nat.le_succ_of_le ZB); replace kR := (hS.block _ (Nat.ne_of_lt (Nat.lt_succ_of_lt zR))).trans kR; have zW : w.heap.size + 1 + 1 < w2.heap.size := (Array.getElem?_eq_some_iff.1 kR).1; clear hS hZ))
  refine wp_region_held_drew (S := (fun w' => Has w' wa.heap.size x y ∧ Has w' (wa.heap.size + 1) x' y')) (by kernel_rfl) ⟨hX.drew, hY.drew⟩ (fun hHeld => ?_)
  refine take (i := 0) (d := some 16) (v := .bool false) rfl (by kernel_rfl) (by kernel_rfl) (by kernel_rfl) (by kernel_rfl) (fun _ _ _ h => h) (Or.inl ⟨by rfl, by intro w hSw; go_simp⟩) hHeld ?_
  simp only [Act.put, List.setIfInBounds_toArray, List.set_cons_zero, List.set_cons_succ]
  refine take (i := 1) (d := some 17) (v := .bool true) rfl (by kernel_rfl) (by kernel_rfl) (by kernel_rfl) (by kernel_rfl) (fun _ _ _ h => h) (Or.inl ⟨by rfl, by intro w hSw; go_simp⟩) hHeld ?_
  simp only [Act.put, List.setIfInBounds_toArray, List.set_cons_zero, List.set_cons_succ]
  refine take (i := 2) (d := some 18) (v := .bool true) rfl (by kernel_rfl) (by kernel_rfl) (by kernel_rfl) (by kernel_rfl) (fun _ _ _ h => h) (Or.inl ⟨by rfl, by intro w hSw; go_simp⟩) hHeld ?_
  simp only [Act.put, List.setIfInBounds_toArray, List.set_cons_zero, List.set_cons_succ]
  refine take (i := 3) (d := some 19) (v := undef) rfl (by kernel_rfl) (by kernel_rfl) (by kernel_rfl) (by kernel_rfl) (fun _ _ _ h => h) (Or.inr ⟨by rfl, rfl⟩) hHeld ?_
  simp only [Act.put, List.setIfInBounds_toArray, List.set_cons_zero, List.set_cons_succ]
  refine take (i := 4) (d := some 20) (v := undef) rfl (by kernel_rfl) (by kernel_rfl) (by kernel_rfl) (by kernel_rfl) (fun _ _ _ h => h) (Or.inr ⟨by rfl, rfl⟩) hHeld ?_
  simp only [Act.put, List.setIfInBounds_toArray, List.set_cons_zero, List.set_cons_succ]
  refine take (i := 5) (d := some 21) (v := undef) rfl (by kernel_rfl) (by kernel_rfl) (by kernel_rfl) (by kernel_rfl) (fun _ _ _ h => h) (Or.inr ⟨by rfl, rfl⟩) hHeld ?_
  simp only [Act.put, List.setIfInBounds_toArray, List.set_cons_zero, List.set_cons_succ]
  refine take (i := 6) (d := some 22) (v := undef) rfl (by kernel_rfl) (by kernel_rfl) (by kernel_rfl) (by kernel_rfl) (fun _ _ _ h => h) (Or.inr ⟨by rfl, rfl⟩) hHeld ?_
  simp only [Act.put, List.setIfInBounds_toArray, List.set_cons_zero, List.set_cons_succ]
  refine take (i := 7) (d := some 23) (v := undef) rfl (by kernel_rfl) (by kernel_rfl) (by kernel_rfl) (by kernel_rfl) (fun _ _ _ h => h) (Or.inr ⟨by rfl, rfl⟩) hHeld ?_
  simp only [Act.put, List.setIfInBounds_toArray, List.set_cons_zero, List.set_cons_succ]
  refine take (i := 8) (d := some 24) (v := undef) rfl (by kernel_rfl) (by kernel_rfl) (by kernel_rfl) (by kernel_rfl) (fun _ _ _ h => h) (Or.inr ⟨by rfl, rfl⟩) hHeld ?_
  simp only [Act.put, List.setIfInBounds_toArray, List.set_cons_zero, List.set_cons_succ]
  refine take (i := 9) (d := some 25) (v := undef) rfl (by kernel_rfl) (by kernel_rfl) (by kernel_rfl) (by kernel_rfl) (fun _ _ _ h => h) (Or.inr ⟨by rfl, rfl⟩) hHeld ?_
  simp only [Act.put, List.setIfInBounds_toArray, List.set_cons_zero, List.set_cons_succ]
  refine take (i := 10) (d := some 26) (v := .bool true) rfl (by kernel_rfl) (by kernel_rfl) (by kernel_rfl) (by kernel_rfl) (fun _ _ _ h => h) (Or.inl ⟨by rfl, by intro w hSw; go_simp⟩) hHeld ?_
  simp only [Act.put, List.setIfInBounds_toArray, List.set_cons_zero, List.set_cons_succ]
  refine wpAnyH_done (by kernel_rfl) ?_ _
  obtain ⟨r0, r1⟩ := two kR
  have fr := Bl.free kR
  go_wp2
  refine bodyPost_ret (v := .tuple #[.agg #[.slice none 0 0, .slice none 0 0], .bool false]) (by simp [results, Try.results18, go_sem, r0, r1]) rfl (resMB_none ?_)
  exact (bset (bset B (by omega)) (by omega)).drew

set_option maxHeartbeats 4000000 in
theorem meet_no (a1 a2 a3 a4 : Option Addr) (n1 n2 n3 n4 c1 c2 c3 c4 : Nat) (x y x' y' : Nat → Int) (w : World) (h : Two a1 a2 a3 a4 n1 n2 n3 n4 c1 c2 c3 c4 x y x' y' true w) (hR : sameB (fun k => bits .and .i64 (x k) (y' k)) (fun k => bits .and .i64 (y k) (y' k)) (fun k => bits .and .i64 (x' k) (y k)) (fun k => bits .and .i64 (y' k) (y k)) = false) :
    Calls Try.prog 18 #[.agg #[.slice a1 n1 c1, .slice a2 n2 c2], .agg #[.slice a3 n3 c3, .slice a4 n4 c4]] w (ResMB w false [] []) := by
  have heq := fun w => neq_any (fun k => bits .and .i64 (x k) (y' k)) (fun k => bits .and .i64 (y k) (y' k)) (fun k => bits .and .i64 (x' k) (y k)) (fun k => bits .and .i64 (y' k) (y k)) w
  rw [hR] at heq
  have hgd := guard66
  clear hR
  have HT : Hid (Two a1 a2 a3 a4 n1 n2 n3 n4 c1 c2 c3 c4 x y x' y' true w) := h
  obtain ⟨W0, hW0⟩ : ∃ W0, W0 = (((w.alloc (.cells #[.slice a1 n1 c1, .slice a2 n2 c2] 25)).alloc (.cells #[.slice a3 n3 c3, .slice a4 n4 c4] 25)).alloc (.cells #[.slice none 0 0, .slice none 0 0] 25)) := ⟨_, rfl⟩
  have B : Below w.heap.size w W0 := by subst hW0; exact Rw.next (below2 _ _ _) (below_alloc1 _ _)
  have kR : W0.heap[w.heap.size + 1 + 1]? = some (.cells #[.slice none 0 0, .slice none 0 0] 25 (0, 0)) := by subst hW0; exact at_new (by simp)
  have zR : w.heap.size + 1 + 1 < W0.heap.size := (Array.getElem?_eq_some_iff.1 kR).1
  clear h
  have tok1 : True := trivial
  go_enter Try.func18, Try.ntmps18
  go_wp2_with (first
    | (go_at_call 64; rw [← hW0]; clear hW0; refine (HT.out _ B).mono ?_; rintro e wa ⟨rfl, hb⟩; have ZB := Nat.le_trans B.size hb.size; replace kR := (hb.block _ zR).trans kR; replace zR := Nat.lt_of_lt_of_le zR hb.size; replace B := Rw.next B hb; clear hb HT)
    | (clear tok1; refine store66 rfl _ _ rfl rfl rfl (has_old (has_zero rfl)) (fun w1 hX hS => ?_); have hZ := hS.has (has_zero (g := wa.heap.size + 1) (by simp)) (by simp); replace B := hS.below (Rw.next B (below2 _ _ _)) B.size; replace kR := (hS.block _ (Nat.ne_of_lt zR)).trans (((below2 _ _ _).block _ zR).trans kR); have tok2 : True := trivial; clear hS)
    | (clear tok2; refine store66 rfl _ _ rfl rfl rfl hZ (fun w2 hY hS => ?_); replace hX := hS.has hX (by simp); replace B := hS.below B (Nat.le_succ_of_le ZB); replace kR := (hS.block _ (Nat.ne_of_lt (Nat.lt_succ_of_lt zR))).trans kR; have zW : w.heap.size + 1 + 1 < w2.heap.size := (Array.getElem?_eq_some_iff.1 kR).1; clear hS hZ))
  refine wp_region_held_drew (S := (fun w' => Has w' wa.heap.size x y ∧ Has w' (wa.heap.size + 1) x' y')) (by kernel_rfl) ⟨hX.drew, hY.drew⟩ (fun hHeld => ?_)
  refine take (i := 0) (d := some 16) (v := .bool true) rfl (by kernel_rfl) (by kernel_rfl) (by kernel_rfl) (by kernel_rfl) (fun _ _ _ h => h) (Or.inl ⟨by rfl, by intro w hSw; go_simp⟩) hHeld ?_
  simp only [Act.put, List.setIfInBounds_toArray, List.set_cons_zero, List.set_cons_succ]
  refine take (i := 1) (d := some 17) (v := .bool false) rfl (by kernel_rfl) (by kernel_rfl) (by kernel_rfl) (by kernel_rfl) (fun _ _ _ h => h) (Or.inl ⟨by rfl, by intro w hSw; go_simp⟩) hHeld ?_
  simp only [Act.put, List.setIfInBounds_toArray, List.set_cons_zero, List.set_cons_succ]
  refine take (i := 2) (d := some 18) (v := .bool false) rfl (by kernel_rfl) (by kernel_rfl) (by kernel_rfl) (by kernel_rfl) (fun _ _ _ h => h) (Or.inl ⟨by rfl, by intro w hSw; go_simp⟩) hHeld ?_
  simp only [Act.put, List.setIfInBounds_toArray, List.set_cons_zero, List.set_cons_succ]
  refine take (i := 3) (d := some 19) (v := _) rfl (by kernel_rfl) (by kernel_rfl) (by kernel_rfl) (by kernel_rfl) (fun _ _ _ h => h) (yields66 (by rfl) _ rfl rfl (fun w h => h.1)) hHeld ?_
  simp only [Act.put, List.setIfInBounds_toArray, List.set_cons_zero, List.set_cons_succ]
  refine take (i := 4) (d := some 20) (v := _) rfl (by kernel_rfl) (by kernel_rfl) (by kernel_rfl) (by kernel_rfl) (fun _ _ _ h => h) (yields66 (by rfl) _ rfl rfl (fun w h => h.2)) hHeld ?_
  simp only [Act.put, List.setIfInBounds_toArray, List.set_cons_zero, List.set_cons_succ]
  refine take (i := 6) (d := some 22) (v := _) rfl (by kernel_rfl) (by kernel_rfl) (by kernel_rfl) (by kernel_rfl) (fun _ _ _ h => h) (yields66 (by rfl) _ rfl rfl (fun w h => h.2)) hHeld ?_
  simp only [Act.put, List.setIfInBounds_toArray, List.set_cons_zero, List.set_cons_succ]
  refine take (i := 7) (d := some 23) (v := _) rfl (by kernel_rfl) (by kernel_rfl) (by kernel_rfl) (by kernel_rfl) (fun _ _ _ h => h) (yields66 (by rfl) _ rfl rfl (fun w h => h.1)) hHeld ?_
  simp only [Act.put, List.setIfInBounds_toArray, List.set_cons_zero, List.set_cons_succ]
  refine wpAnyH_ready (rs := [5]) (by kernel_rfl) (by simp) (readyCall2 rfl (by kernel_rfl) 65 (.tmp 19) (.tmp 20) 97 97 (by kernel_rfl) 21 (by kernel_rfl) _ _ (by kernel_rfl) (by kernel_rfl) (fun _ => rfl) (under_any x y x' y' _) (fun w3 hb => ⟨hX.drew.below hb, hY.drew.below hb⟩) (fun w3 hb hHeld => ?_) AllReadyH.nil)
  simp only [Act.put, List.setIfInBounds_toArray, List.set_cons_zero, List.set_cons_succ]
  replace hX := hX.drew.below hb
  replace hY := hY.drew.below hb
  replace kR := (hb.block _ zW).trans kR
  replace zW := Nat.lt_of_lt_of_le zW hb.size
  replace B := Rw.next B.drew hb
  clear hb
  refine wpAnyH_ready (rs := [8]) (by kernel_rfl) (by simp) (readyCall2 rfl (by kernel_rfl) 65 (.tmp 22) (.tmp 23) 97 97 (by kernel_rfl) 24 (by kernel_rfl) _ _ (by kernel_rfl) (by kernel_rfl) (fun _ => rfl) (under_any x' y' x y _) (fun w4 hb => ⟨hX.below hb, hY.below hb⟩) (fun w4 hb hHeld => ?_) AllReadyH.nil)
  simp only [Act.put, List.setIfInBounds_toArray, List.set_cons_zero, List.set_cons_succ]
  replace hX := hX.below hb
  replace hY := hY.below hb
  replace kR := (hb.block _ zW).trans kR
  replace zW := Nat.lt_of_lt_of_le zW hb.size
  replace B := Rw.next B hb
  clear hb
  refine take (i := 9) (d := some 25) (v := .bool true) rfl (by kernel_rfl) (by kernel_rfl) (by kernel_rfl) (by kernel_rfl) (fun _ _ _ h => h) (Or.inl ⟨by rfl, by intro w hSw; go_simp⟩) hHeld ?_
  simp only [Act.put, List.setIfInBounds_toArray, List.set_cons_zero, List.set_cons_succ]
  refine take (i := 10) (d := some 26) (v := .bool true) rfl (by kernel_rfl) (by kernel_rfl) (by kernel_rfl) (by kernel_rfl) (fun _ _ _ h => h) (Or.inl ⟨by rfl, by intro w hSw; go_simp⟩) hHeld ?_
  simp only [Act.put, List.setIfInBounds_toArray, List.set_cons_zero, List.set_cons_succ]
  refine wpAnyH_done (by kernel_rfl) ?_ _
  obtain ⟨r0, r1⟩ := two kR
  have fr := Bl.free kR
  go_wp2
  refine bodyPost_ret (v := .tuple #[.agg #[.slice none 0 0, .slice none 0 0], .bool false]) (by simp [results, Try.results18, go_sem, r0, r1]) rfl (resMB_none ?_)
  exact bset (bset B (by omega)) (by omega)

theorem wt_set2 {w : World} {a : Option Addr} {g b k : Nat} {l : List Int} {u : Value} (h : Wt w a g l) (hne : b ≠ g) : Wt (w.setCell ⟨b, k, none⟩ u) a g l := by
  have e : (w.setCell ⟨b, k, none⟩ u).heap[g]? = w.heap[g]? := Below.heap_setCell w _ u g (fun e => hne e.symm)
  refine ⟨h.head, fun i hi => ?_, fun i hi => ?_, h.size⟩
  · have := h.cell i hi
    simp only [World.cell?, e] at this ⊢
    exact this
  · have := h.free i hi
    simp only [World.frozen?, e] at this ⊢
    exact this

set_option maxHeartbeats 4000000 in
theorem meet_yes (a1 a2 a3 a4 : Option Addr) (n1 n2 n3 n4 c1 c2 c3 c4 : Nat) (x y x' y' : Nat → Int) (w : World) (h : Two a1 a2 a3 a4 n1 n2 n3 n4 c1 c2 c3 c4 x y x' y' true w) (hR : sameB (fun k => bits .and .i64 (x k) (y' k)) (fun k => bits .and .i64 (y k) (y' k)) (fun k => bits .and .i64 (x' k) (y k)) (fun k => bits .and .i64 (y' k) (y k)) = true) :
    Calls Try.prog 18 #[.agg #[.slice a1 n1 c1, .slice a2 n2 c2], .agg #[.slice a3 n3 c3, .slice a4 n4 c4]] w (ResMB w true (lst fun k => bits .or .i64 (x k) (x' k)) (lst fun k => bits .or .i64 (y k) (y' k))) := by
  have heq := fun w => neq_any (fun k => bits .and .i64 (x k) (y' k)) (fun k => bits .and .i64 (y k) (y' k)) (fun k => bits .and .i64 (x' k) (y k)) (fun k => bits .and .i64 (y' k) (y k)) w
  rw [hR] at heq
  have hgd := guard66
  clear hR
  have HT : Hid (Two a1 a2 a3 a4 n1 n2 n3 n4 c1 c2 c3 c4 x y x' y' true w) := h
  obtain ⟨W0, hW0⟩ : ∃ W0, W0 = (((w.alloc (.cells #[.slice a1 n1 c1, .slice a2 n2 c2] 25)).alloc (.cells #[.slice a3 n3 c3, .slice a4 n4 c4] 25)).alloc (.cells #[.slice none 0 0, .slice none 0 0] 25)) := ⟨_, rfl⟩
  have B : Below w.heap.size w W0 := by subst hW0; exact Rw.next (below2 _ _ _) (below_alloc1 _ _)
  have kR : W0.heap[w.heap.size + 1 + 1]? = some (.cells #[.slice none 0 0, .slice none 0 0] 25 (0, 0)) := by subst hW0; exact at_new (by simp)
  have zR : w.heap.size + 1 + 1 < W0.heap.size := (Array.getElem?_eq_some_iff.1 kR).1
  clear h
  have tok1 : True := trivial
  go_enter Try.func18, Try.ntmps18
  go_wp2_with (first
    | (go_at_call 64; rw [← hW0]; clear hW0; refine (HT.out _ B).mono ?_; rintro e wa ⟨rfl, hb⟩; have ZB := Nat.le_trans B.size hb.size; replace kR := (hb.block _ zR).trans kR; replace zR := Nat.lt_of_lt_of_le zR hb.size; replace B := Rw.next B hb; clear hb HT)
    | (clear tok1; refine store66 rfl _ _ rfl rfl rfl (has_old (has_zero rfl)) (fun w1 hX hS => ?_); have hZ := hS.has (has_zero (g := wa.heap.size + 1) (by simp)) (by simp); replace B := hS.below (Rw.next B (below2 _ _ _)) B.size; replace kR := (hS.block _ (Nat.ne_of_lt zR)).trans (((below2 _ _ _).block _ zR).trans kR); have tok2 : True := trivial; clear hS)
    | (clear tok2; refine store66 rfl _ _ rfl rfl rfl hZ (fun w2 hY hS => ?_); replace hX := hS.has hX (by simp); replace B := hS.below B (Nat.le_succ_of_le ZB); replace kR := (hS.block _ (Nat.ne_of_lt (Nat.lt_succ_of_lt zR))).trans kR; have zW : w.heap.size + 1 + 1 < w2.heap.size := (Array.getElem?_eq_some_iff.1 kR).1; clear hS hZ))
  refine wp_region_held_drew (S := (fun w' => Has w' wa.heap.size x y ∧ Has w' (wa.heap.size + 1) x' y')) (by kernel_rfl) ⟨hX.drew, hY.drew⟩ (fun hHeld => ?_)
  refine take (i := 0) (d := some 16) (v := .bool true) rfl (by kernel_rfl) (by kernel_rfl) (by kernel_rfl) (by kernel_rfl) (fun _ _ _ h => h) (Or.inl ⟨by rfl, by intro w hSw; go_simp⟩) hHeld ?_
  simp only [Act.put, List.setIfInBounds_toArray, List.set_cons_zero, List.set_cons_succ]
  refine take (i := 1) (d := some 17) (v := .bool false) rfl (by kernel_rfl) (by kernel_rfl) (by kernel_rfl) (by kernel_rfl) (fun _ _ _ h => h) (Or.inl ⟨by rfl, by intro w hSw; go_simp⟩) hHeld ?_
  simp only [Act.put, List.setIfInBounds_toArray, List.set_cons_zero, List.set_cons_succ]
  refine take (i := 2) (d := some 18) (v := .bool false) rfl (by kernel_rfl) (by kernel_rfl) (by kernel_rfl) (by kernel_rfl) (fun _ _ _ h => h) (Or.inl ⟨by rfl, by intro w hSw; go_simp⟩) hHeld ?_
  simp only [Act.put, List.setIfInBounds_toArray, List.set_cons_zero, List.set_cons_succ]
  refine take (i := 3) (d := some 19) (v := _) rfl (by kernel_rfl) (by kernel_rfl) (by kernel_rfl) (by kernel_rfl) (fun _ _ _ h => h) (yields66 (by rfl) _ rfl rfl (fun w h => h.1)) hHeld ?_
  simp only [Act.put, List.setIfInBounds_toArray, List.set_cons_zero, List.set_cons_succ]
  refine take (i := 4) (d := some 20) (v := _) rfl (by kernel_rfl) (by kernel_rfl) (by kernel_rfl) (by kernel_rfl) (fun _ _ _ h => h) (yields66 (by rfl) _ rfl rfl (fun w h => h.2)) hHeld ?_
  simp only [Act.put, List.setIfInBounds_toArray, List.set_cons_zero, List.set_cons_succ]
  refine take (i := 6) (d := some 22) (v := _) rfl (by kernel_rfl) (by kernel_rfl) (by kernel_rfl) (by kernel_rfl) (fun _ _ _ h => h) (yields66 (by rfl) _ rfl rfl (fun w h => h.2)) hHeld ?_
  simp only [Act.put, List.setIfInBounds_toArray, List.set_cons_zero, List.set_cons_succ]
  refine take (i := 7) (d := some 23) (v := _) rfl (by kernel_rfl) (by kernel_rfl) (by kernel_rfl) (by kernel_rfl) (fun _ _ _ h => h) (yields66 (by rfl) _ rfl rfl (fun w h => h.1)) hHeld ?_
  simp only [Act.put, List.setIfInBounds_toArray, List.set_cons_zero, List.set_cons_succ]
  refine wpAnyH_ready (rs := [5]) (by kernel_rfl) (by simp) (readyCall2 rfl (by kernel_rfl) 65 (.tmp 19) (.tmp 20) 97 97 (by kernel_rfl) 21 (by kernel_rfl) _ _ (by kernel_rfl) (by kernel_rfl) (fun _ => rfl) (under_any x y x' y' _) (fun w3 hb => ⟨hX.drew.below hb, hY.drew.below hb⟩) (fun w3 hb hHeld => ?_) AllReadyH.nil)
  simp only [Act.put, List.setIfInBounds_toArray, List.set_cons_zero, List.set_cons_succ]
  replace hX := hX.drew.below hb
  replace hY := hY.drew.below hb
  replace kR := (hb.block _ zW).trans kR
  replace zW := Nat.lt_of_lt_of_le zW hb.size
  replace B := Rw.next B.drew hb
  clear hb
  refine wpAnyH_ready (rs := [8]) (by kernel_rfl) (by simp) (readyCall2 rfl (by kernel_rfl) 65 (.tmp 22) (.tmp 23) 97 97 (by kernel_rfl) 24 (by kernel_rfl) _ _ (by kernel_rfl) (by kernel_rfl) (fun _ => rfl) (under_any x' y' x y _) (fun w4 hb => ⟨hX.below hb, hY.below hb⟩) (fun w4 hb hHeld => ?_) AllReadyH.nil)
  simp only [Act.put, List.setIfInBounds_toArray, List.set_cons_zero, List.set_cons_succ]
  replace hX := hX.below hb
  replace hY := hY.below hb
  replace kR := (hb.block _ zW).trans kR
  replace zW := Nat.lt_of_lt_of_le zW hb.size
  replace B := Rw.next B hb
  clear hb
  refine take (i := 9) (d := some 25) (v := .bool false) rfl (by kernel_rfl) (by kernel_rfl) (by kernel_rfl) (by kernel_rfl) (fun _ _ _ h => h) (Or.inl ⟨by rfl, by intro w hSw; go_simp⟩) hHeld ?_
  simp only [Act.put, List.setIfInBounds_toArray, List.set_cons_zero, List.set_cons_succ]
  refine take (i := 10) (d := some 26) (v := .bool false) rfl (by kernel_rfl) (by kernel_rfl) (by kernel_rfl) (by kernel_rfl) (fun _ _ _ h => h) (Or.inl ⟨by rfl, by intro w hSw; go_simp⟩) hHeld ?_
  simp only [Act.put, List.setIfInBounds_toArray, List.set_cons_zero, List.set_cons_succ]
  refine wpAnyH_done (by kernel_rfl) ?_ _
  obtain ⟨r0, r1⟩ := two kR
  have fr := Bl.free kR
  have sW := B.size
  go_wp2_with (first
    | (refine load66 rfl _ rfl rfl hX ?_)
    | (refine load66 rfl _ rfl rfl hY ?_)
    | (go_at_call 69; refine (with_any x y x' y' _).mono ?_; rintro e w5 ⟨rfl, hb⟩; replace kR := (hb.block _ zW).trans kR; replace zW := Nat.lt_of_lt_of_le zW hb.size; replace B := Rw.next B hb; clear r0 r1 fr hb hX hY)
    | (go_at_call 70; refine (match_any _ _ _).mono ?_; rintro e w6 ⟨aV, gV, cV, aM, gM, cM, rfl, hV, hM, l1, l2, l3, hb⟩; replace kR := (hb.block _ zW).trans kR; have zg := zW; replace B := Rw.next B hb; obtain ⟨r0, r1⟩ := two kR; have fr := Bl.free kR; clear hb))
  refine bodyPost_ret (v := .tuple #[.agg #[.slice aV (lst _).length cV, .slice aM (lst _).length cM], .bool true]) (by simp [results, Try.results18, go_sem, r0, r1]) rfl ⟨aV, gV, cV, aM, gM, cM, rfl, ?_, ?_, by omega, by omega, l3, ?_⟩
  · exact wt_set2 (wt_set2 hV (by omega)) (by omega)
  · exact wt_set2 (wt_set2 hM (by omega)) (by omega)
  · exact bset (bset B (by omega)) (by omega)

end Go.Proofs.Ytcbgnfjnjfaacaa.Mj
namespace Go.Proofs.Ytcbgnfjnjfaacaa.Mo
set_option maxRecDepth 8000
open Go Go.RowKit
open Num Pl Hr Hh Hf Hg Pa Pm Po Pq Mi Bw
set_option linter.unusedSimpArgs false
set_option linter.unusedVariables false

/-- The n highest bits of a field, as an integer. -/
def topI (f n : Nat) : Int := ((Bt.top (fbN f) n : Nat) : Int)

theorem top_eq (b n c : Nat) (h : b = n + c) (hb : b ≤ 48) : IntKind.i64.wrap (IntKind.i64.wrap ((2 : Int) ^ b) - IntKind.i64.wrap ((2 : Int) ^ c)) = ((Bt.top b n : Nat) : Int) := by
  have e : ∀ k : Nat, k ≤ 48 → IntKind.i64.wrap ((2 : Int) ^ k) = ((2 ^ k : Nat) : Int) ∧ (2 ^ k : Nat) ≤ 281474976710656 := by
    intro k hk
    have h1 : (2 ^ k : Nat) ≤ 2 ^ 48 := Nat.pow_le_pow_right (by decide) hk
    have h2 : (2 : Int) ^ k = ((2 ^ k : Nat) : Int) := by rw [Int.natCast_pow]; rfl
    rw [h2]
    have h3 : (2 ^ k : Nat) ≤ 281474976710656 := h1
    clear h2 h1
    generalize (2 ^ k : Nat) = Q at h3 ⊢
    exact ⟨Get.wraps_i64 _ (by omega) (by omega), h3⟩
  obtain ⟨e1, l1⟩ := e b hb
  obtain ⟨e2, l2⟩ := e c (by omega)
  rw [e1, e2]
  have et : (2 ^ b : Nat) = Bt.top b n + 2 ^ c := by
    unfold Bt.top
    subst h
    rw [Nat.add_sub_cancel_left, Nat.pow_add]
    have hp : 0 < 2 ^ n := Nat.pow_pos (by decide)
    generalize 2 ^ n = P at *
    generalize 2 ^ c = Q at *
    obtain ⟨p, rfl⟩ : ∃ p, P = p + 1 := ⟨P - 1, by omega⟩
    rw [Nat.add_sub_cancel, Nat.add_mul, Nat.one_mul]
  have e3 : ((2 ^ b : Nat) : Int) - ((2 ^ c : Nat) : Int) = ((Bt.top b n : Nat) : Int) := by
    rw [et]
    generalize (2 ^ c : Nat) = Q
    generalize Bt.top b n = P
    omega
  rw [e3]
  have : Bt.top b n ≤ 2 ^ b := by rw [et]; exact Nat.le_add_right _ _
  generalize (2 ^ b : Nat) = Q at *
  exact Get.wraps_i64 _ (by omega) (by omega)

set_option maxHeartbeats 1000000 in
theorem high_any (f n : Nat) (hf : f < 8) (hn : n ≤ fbN f) (w : World) :
    Calls Try.prog 122 #[.int .i64 f, .int .i64 n] w fun e w' => e = .returned (.int .i64 (topI f n)) ∧ Below w.heap.size w w' := by
  have hb : ∀ w, Calls Try.prog 123 #[.int .i64 f] w fun e w' => e = .returned (.int .i64 (fbN f : Int)) ∧ w' = w := fun w => by have := implBits_any f w; rw [fbN_eq] at this; exact this
  have HB : Hid (∀ w, Calls Try.prog 123 #[.int .i64 f] w fun e w' => e = .returned (.int .i64 (fbN f : Int)) ∧ w' = w) := hb
  clear hb
  have h48 := fbN_le f
  unfold topI
  generalize fbN f = b at *
  obtain ⟨c, hc⟩ : ∃ c, b = n + c := ⟨b - n, by omega⟩
  have HBC : Hid (b = n + c) := hc
  have e11 : IntKind.i64.wrap ((b : Int) - (n : Int)) = (c : Int) := by
    have e : (b : Int) - (n : Int) = c := by omega
    rw [e]
    exact Get.wraps_i64 _ (by omega) (by omega)
  have hc64 : (c : Int) ≤ 64 := by omega
  have hb64 : (b : Int) ≤ 64 := by omega
  clear hc hn
  go_enter Try.func122, Try.ntmps122
  go_wp2
  refine wp_region_held_drew (S := fun _ => True) (by kernel_rfl) trivial (fun hHeld => ?_)
  refine take (i := 0) (d := some 5) (v := .int .i64 f) rfl (by kernel_rfl) (by kernel_rfl) (by kernel_rfl) (by kernel_rfl) (fun _ _ _ h => h) (Or.inl ⟨by rfl, by intro w hSw; go_simp⟩) hHeld ?_
  simp only [Act.put, List.setIfInBounds_toArray, List.set_cons_zero, List.set_cons_succ]
  refine take (i := 3) (d := some 8) (v := .int .i64 f) rfl (by kernel_rfl) (by kernel_rfl) (by kernel_rfl) (by kernel_rfl) (fun _ _ _ h => h) (Or.inl ⟨by rfl, by intro w hSw; go_simp⟩) hHeld ?_
  simp only [Act.put, List.setIfInBounds_toArray, List.set_cons_zero, List.set_cons_succ]
  refine take (i := 5) (d := some 10) (v := .int .i64 n) rfl (by kernel_rfl) (by kernel_rfl) (by kernel_rfl) (by kernel_rfl) (fun _ _ _ h => h) (Or.inl ⟨by rfl, by intro w hSw; go_simp⟩) hHeld ?_
  simp only [Act.put, List.setIfInBounds_toArray, List.set_cons_zero, List.set_cons_succ]
  refine wpAnyH_ready (rs := [1]) (by kernel_rfl) (by simp) (Rg.call1 rfl (by kernel_rfl) 123 (.tmp 5) 3 (by kernel_rfl) 6 (by kernel_rfl) (.int .i64 f) (by kernel_rfl) (fun _ => rfl) (HB.out _) ?_ AllReadyH.nil)
  rintro e wq ⟨rfl, hwq⟩
  subst hwq
  refine ⟨_, rfl, trivial, fun hHeld => ?_⟩
  simp only [Act.put, List.setIfInBounds_toArray, List.set_cons_zero, List.set_cons_succ]
  refine' take (i := 2) (d := some 7) (v := _) rfl (by kernel_rfl) (by kernel_rfl) (by kernel_rfl) (by kernel_rfl) (fun _ _ _ h => h) (Or.inl ⟨by rfl, ?hy2⟩) hHeld ?rest2
  case hy2 => intro w hSw; go_simp; rfl
  simp only [Act.put, List.setIfInBounds_toArray, List.set_cons_zero, List.set_cons_succ]
  refine wpAnyH_ready (rs := [4]) (by kernel_rfl) (by simp) (Rg.call1 rfl (by kernel_rfl) 123 (.tmp 8) 3 (by kernel_rfl) 9 (by kernel_rfl) (.int .i64 f) (by kernel_rfl) (fun _ => rfl) (HB.out _) ?_ AllReadyH.nil)
  rintro e wq ⟨rfl, hwq⟩
  subst hwq
  refine ⟨_, rfl, trivial, fun hHeld => ?_⟩
  simp only [Act.put, List.setIfInBounds_toArray, List.set_cons_zero, List.set_cons_succ]
  refine take (i := 6) (d := some 11) (v := .int .i64 c) rfl (by kernel_rfl) (by kernel_rfl) (by kernel_rfl) (by kernel_rfl) (fun _ _ _ h => h) (Or.inl ⟨by rfl, by intro w hSw; go_simp⟩) hHeld ?_
  simp only [Act.put, List.setIfInBounds_toArray, List.set_cons_zero, List.set_cons_succ]
  refine' take (i := 7) (d := some 12) (v := _) rfl (by kernel_rfl) (by kernel_rfl) (by kernel_rfl) (by kernel_rfl) (fun _ _ _ h => h) (Or.inl ⟨by rfl, ?hy7⟩) hHeld ?rest7
  case hy7 => intro w hSw; go_simp; rfl
  simp only [Act.put, List.setIfInBounds_toArray, List.set_cons_zero, List.set_cons_succ]
  refine' take (i := 8) (d := some 13) (v := _) rfl (by kernel_rfl) (by kernel_rfl) (by kernel_rfl) (by kernel_rfl) (fun _ _ _ h => h) (Or.inl ⟨by rfl, ?hy8⟩) hHeld ?rest8
  case hy8 => intro w hSw; go_simp; rfl
  simp only [Act.put, List.setIfInBounds_toArray, List.set_cons_zero, List.set_cons_succ]
  refine' take (i := 9) (d := some 4) (v := _) rfl (by kernel_rfl) (by kernel_rfl) (by kernel_rfl) (by kernel_rfl) (fun _ _ _ h => h) (Or.inl ⟨by rfl, ?hy9⟩) hHeld ?rest9
  case hy9 => intro w hSw; go_simp; rfl
  simp only [Act.put, List.setIfInBounds_toArray, List.set_cons_zero, List.set_cons_succ]
  refine wpAnyH_done (by kernel_rfl) ?_ _
  go_wp2_with fail
  go_ret
  exact ⟨Hf.ret_int (top_eq _ _ _ HBC.out h48), (Below.refl _ _).drew⟩

/-- A store of one pair into the pairs, in a region that draws its order. -/
theorem ready64 {md : Region.Mode} {ops : Array Oper} {Q : Exit → Act → World → Prop} {S : World → Prop} {fuel : Nat} {listed : Array Bool} {a : Act} {w : World} {i : Nat} {o : Oper} {rs : List Nat} (hi : ops[i]? = some o) (hgd : o.guard = none)
    (x y : Operand) (ho : o.op = .store 95 x y) (hd : o.dst = none) {g k : Nat} (hx : a.eval x = .pointer (some ⟨g, k * 2, none⟩)) {p q : Int} (hy : a.eval y = .agg #[.int .i64 p, .int .i64 q]) {v m : Nat → Int} (h : Has w g v m) (hk8 : k < 8)
    (hS : S ((w.setCell ⟨g, k * 2, none⟩ (.int .i64 p)).setCell ⟨g, k * 2 + 1, none⟩ (.int .i64 q)))
    (hk : S ((w.setCell ⟨g, k * 2, none⟩ (.int .i64 p)).setCell ⟨g, k * 2 + 1, none⟩ (.int .i64 q)) → wpAnyH Try.prog md ops Q S fuel (listed.setIfInBounds i true) (a.put none undef) ((w.setCell ⟨g, k * 2, none⟩ (.int .i64 p)).setCell ⟨g, k * 2 + 1, none⟩ (.int .i64 q)))
    (hs : AllReadyH Try.prog md ops Q S fuel listed a w rs) : AllReadyH Try.prog md ops Q S fuel listed a w (i :: rs) :=
  AllReadyH.cons hi (fun K hK => by
    rw [if_pos (by simp only [Region.wanted, hgd])]
    refine wp_store_mid 95 x y ho g (k * 2) _ hx hy ?_ (by kernel_rfl) (by simp [Value.oneCell']) ?_
    · intro j hj
      have hj2 : j < 2 := hj
      rw [cell_of_row w g _ _ _ _ h, enc_at _ _ (by omega)]
      exact ⟨rfl, h.free _⟩
    · exact hK.out _ _ hS (fun hs' => by rw [hd]; exact hk hs')) hs

end Go.Proofs.Ytcbgnfjnjfaacaa.Mo
namespace Go.Proofs.Ytcbgnfjnjfaacaa.Mp
set_option maxRecDepth 8000
open Go Go.RowKit
open Num Pl Hr Hh Hf Hg Pa Pm Po Pq Mi Bw Mo
set_option linter.unusedSimpArgs false
set_option linter.unusedVariables false

theorem cell_set2 {w : World} {a : Addr} {g i j : Nat} {x y : Value} {v : Option Value} (h : w.cell? a = v) (hne : a.block ≠ g) : ((w.setCell ⟨g, i, none⟩ x).setCell ⟨g, j, none⟩ y).cell? a = v := by
  rw [World.cell?_setCell_other _ _ _ _ (by intro q; exact hne (by rw [← q])), World.cell?_setCell_other _ _ _ _ (by intro q; exact hne (by rw [← q]))]
  exact h
theorem resM_none {w w' : World} (h : Below w.heap.size w w') : ResM w [] [] (.returned (.agg #[.slice none 0 0, .slice none 0 0])) w' :=
  ⟨none, w.heap.size, 0, none, w.heap.size + 1, 0, rfl, Wt.nil _ _ _, Wt.nil _ _ _, Nat.le_refl _, Nat.le_succ _, by omega, h⟩
/-- All bits of a field. -/
def fullI (f : Nat) : Int := topI f (fbN f)

set_option maxHeartbeats 1000000 in
theorem of_no (a : Option Addr) (n c : Nat) (w : World) (t0 : ∀ w1, Below w.heap.size w w1 → Calls Try.prog 121 #[.agg #[.slice a n c]] w1 fun e w' => e = .returned (.bool false) ∧ Below w1.heap.size w1 w') :
    Calls Try.prog 68 #[.agg #[.slice a n c]] w (ResM w [] []) := by
  have T0 : Hid (∀ w1, Below w.heap.size w w1 → Calls Try.prog 121 #[.agg #[.slice a n c]] w1 fun e w' => e = .returned (.bool false) ∧ Below w1.heap.size w1 w') := t0
  obtain ⟨W0, hW0⟩ : ∃ W0, W0 = (w.alloc (.cells #[.slice a n c] 27)).alloc (.cells #[.slice none 0 0, .slice none 0 0] 25) := ⟨_, rfl⟩
  have B : Below w.heap.size w W0 := by subst hW0; exact Mi.below2 _ _ _
  have k1 : W0.heap[w.heap.size + 1]? = some (.cells #[.slice none 0 0, .slice none 0 0] 25 (0, 0)) := by subst hW0; exact at_new (by simp)
  clear t0
  go_enter Try.func68, Try.ntmps68
  go_wp2_with (go_at_call 121; rw [← hW0]; refine (T0.out _ B).mono ?_; rintro e wa ⟨rfl, hb⟩; replace k1 := (hb.block _ (Array.getElem?_eq_some_iff.1 k1).1).trans k1; obtain ⟨r0, r1⟩ := two k1; have fr := Bl.free k1; replace B := Rw.next B hb; clear hb)
  refine bodyPost_ret (v := .agg #[.slice none 0 0, .slice none 0 0]) (by simp [results, Try.results68, go_sem, r0, r1]) rfl (resM_none ?_)
  exact bset (bset B (by omega)) (by omega)

set_option maxHeartbeats 4000000 in
theorem of_yes (b o c : Nat) (H : List Int) (w : World) (r1 : ∀ k, k < 8 → w.cell? ⟨b, o + k, none⟩ = some (.int .i64 (H.getD k 0)))
    (t0 : ∀ w1, Below w.heap.size w w1 → Calls Try.prog 121 #[.agg #[.slice (some ⟨b, o, none⟩) 8 c]] w1 fun e w' => e = .returned (.bool true) ∧ Below w1.heap.size w1 w') :
    Calls Try.prog 68 #[.agg #[.slice (some ⟨b, o, none⟩) 8 c]] w (ResM w (lst (nth H)) (lst fullI)) := by
  have T0 : Hid (∀ w1, Below w.heap.size w w1 → Calls Try.prog 121 #[.agg #[.slice (some ⟨b, o, none⟩) 8 c]] w1 fun e w' => e = .returned (.bool true) ∧ Below w1.heap.size w1 w') := t0
  have R1 : Hid (∀ k, k < 8 → w.cell? ⟨b, o + k, none⟩ = some (.int .i64 (H.getD k 0))) := r1
  obtain ⟨W0, hW0⟩ : ∃ W0, W0 = (w.alloc (.cells #[.slice (some ⟨b, o, none⟩) 8 c] 27)).alloc (.cells #[.slice none 0 0, .slice none 0 0] 25) := ⟨_, rfl⟩
  have B : Below w.heap.size w W0 := by subst hW0; exact Mi.below2 _ _ _
  have k0 : W0.heap[w.heap.size]? = some (.cells #[.slice (some ⟨b, o, none⟩) 8 c] 27 (0, 0)) := by subst hW0; rw [at_old (by simp), at_new rfl]
  have k1 : W0.heap[w.heap.size + 1]? = some (.cells #[.slice none 0 0, .slice none 0 0] 25 (0, 0)) := by subst hW0; exact at_new (by simp)
  clear t0 r1
  go_enter Try.func68, Try.ntmps68
  go_wp2_with (go_at_call 121; rw [← hW0]; refine (T0.out _ B).mono ?_; rintro e wa ⟨rfl, hb⟩; replace k0 := (hb.block _ (Array.getElem?_eq_some_iff.1 k0).1).trans k0; replace k1 := (hb.block _ (Array.getElem?_eq_some_iff.1 k1).1).trans k1; replace B := Rw.next B hb; clear hb)
  clear hW0 T0
  have z0 := (Array.getElem?_eq_some_iff.1 k0).1
  have z1 := (Array.getElem?_eq_some_iff.1 k1).1
  have hA : Has (wa.alloc (.cells #[.int .i64 0, .int .i64 0, .int .i64 0, .int .i64 0, .int .i64 0, .int .i64 0, .int .i64 0, .int .i64 0, .int .i64 0, .int .i64 0, .int .i64 0, .int .i64 0, .int .i64 0, .int .i64 0, .int .i64 0, .int .i64 0] 97)) wa.heap.size nul nul := has_zero rfl
  have B1 : Below w.heap.size w (wa.alloc (.cells #[.int .i64 0, .int .i64 0, .int .i64 0, .int .i64 0, .int .i64 0, .int .i64 0, .int .i64 0, .int .i64 0, .int .i64 0, .int .i64 0, .int .i64 0, .int .i64 0, .int .i64 0, .int .i64 0, .int .i64 0, .int .i64 0] 97)) := Rw.next B (below_alloc1 _ _)
  replace k0 := (at_old (o := .cells #[.int .i64 0, .int .i64 0, .int .i64 0, .int .i64 0, .int .i64 0, .int .i64 0, .int .i64 0, .int .i64 0, .int .i64 0, .int .i64 0, .int .i64 0, .int .i64 0, .int .i64 0, .int .i64 0, .int .i64 0, .int .i64 0] 97) z0).trans k0
  replace k1 := (at_old (o := .cells #[.int .i64 0, .int .i64 0, .int .i64 0, .int .i64 0, .int .i64 0, .int .i64 0, .int .i64 0, .int .i64 0, .int .i64 0, .int .i64 0, .int .i64 0, .int .i64 0, .int .i64 0, .int .i64 0, .int .i64 0, .int .i64 0] 97) z1).trans k1
  obtain ⟨gA, hgA⟩ : ∃ gA, gA = wa.heap.size := ⟨_, rfl⟩
  rw [← hgA] at hA ⊢
  have n0 : w.heap.size ≠ gA := by omega
  have n1 : w.heap.size + 1 ≠ gA := by omega
  have n2 : w.heap.size ≤ gA := by omega
  have HLT : Hid (∀ k, k < 8 → b ≠ gA) := (fun k hk e => by have := World.block_lt_of_cell? _ _ (R1.out k hk); simp at this; omega : ∀ k, k < 8 → b ≠ gA)
  clear hgA z0 z1 B
  go_loopw [9] (fun i wr => ∃ k : Nat, k ≤ 8 ∧ i = .int .i64 k ∧ Below w.heap.size w wr ∧ wr.heap[w.heap.size]? = some (.cells #[.slice (some ⟨b, o, none⟩) 8 c] 27 (0, 0)) ∧ wr.heap[w.heap.size + 1]? = some (.cells #[.slice none 0 0, .slice none 0 0] 25 (0, 0)) ∧ Has wr gA (cut (nth H) nul k) (cut fullI nul k)) (fun i _ => 8 - (intOf i).toNat)
  case atStart => exact ⟨0, Nat.zero_le _, rfl, B1, k0, k1, hA.cast (by funext i; simp [cut]) (by funext i; simp [cut])⟩
  case round =>
    obtain ⟨k, hk, rfl, hbel, q0, q1, ha⟩ := hrel
    clear B1 k0 k1 hA
    have z0 := (Array.getElem?_eq_some_iff.1 q0).1
    have z1 := (Array.getElem?_eq_some_iff.1 q1).1
    by_cases hlt : k < 8
    · have hkz : (k : Int) < 8 := by omega
      have g0 : wr.cell? ⟨b, o + k, none⟩ = some (.int .i64 (nth H k)) := (hbel.cell (World.block_lt_of_cell? _ _ (R1.out k hlt))).trans (R1.out k hlt)
      have p0 := one q0
      have nb := HLT.out k hlt
      have Q0 : Hid (wr.heap[w.heap.size]? = some (.cells #[.slice (some ⟨b, o, none⟩) 8 c] 27 (0, 0))) := q0
      have Q1 : Hid (wr.heap[w.heap.size + 1]? = some (.cells #[.slice none 0 0, .slice none 0 0] 25 (0, 0))) := q1
      have HA : Hid (Has wr gA (cut (nth H) nul k) (cut fullI nul k)) := ha
      clear q0 q1 ha
      have HB : Hid (∀ w, Calls Try.prog 123 #[.int .i64 k] w fun e w' => e = .returned (.int .i64 (fbN k : Int)) ∧ w' = w) := (fun w => by have := implBits_any k w; rw [fbN_eq] at this; exact this : ∀ w, Calls Try.prog 123 #[.int .i64 k] w fun e w' => e = .returned (.int .i64 (fbN k : Int)) ∧ w' = w)
      have HT : Hid (∀ w, Calls Try.prog 122 #[.int .i64 k, .int .i64 (fbN k : Int)] w fun e w' => e = .returned (.int .i64 (fullI k)) ∧ Below w.heap.size w w') := (fun w => high_any k (fbN k) hlt (Nat.le_refl _) w : ∀ w, Calls Try.prog 122 #[.int .i64 k, .int .i64 (fbN k : Int)] w fun e w' => e = .returned (.int .i64 (fullI k)) ∧ Below w.heap.size w w')
      have eV : Hid (upd (cut (nth H) nul k) k (nth H k) = cut (nth H) nul (k + 1)) := upd_cut _ _ _
      have eM : Hid (upd (cut fullI nul k) k (fullI k) = cut fullI nul (k + 1)) := upd_cut _ _ _
      generalize (fbN k : Int) = B at HB HT
      generalize nth H k = h at g0 eV
      generalize fullI k = T at HT eM
      go_wp2
      refine wp_region_held_drew (S := (fun w' => w'.cell? ⟨w.heap.size, 0, none⟩ = some (.slice (some ⟨b, o, none⟩) 8 c) ∧ w'.cell? ⟨b, o + k, none⟩ = some (.int .i64 h))) (by kernel_rfl) ⟨p0, g0⟩ (fun hHeld => ?_)
      refine take (i := 0) (d := some 12) (v := .int .i64 k) rfl (by kernel_rfl) (by kernel_rfl) (by kernel_rfl) (by kernel_rfl) (fun _ _ _ h => h) (Or.inl ⟨by rfl, by intro w hSw; go_simp⟩) hHeld ?_
      simp only [Act.put, List.setIfInBounds_toArray, List.set_cons_zero, List.set_cons_succ]
      refine take (i := 1) (d := some 13) (v := .pointer (some ⟨w.heap.size, 0, none⟩)) rfl (by kernel_rfl) (by kernel_rfl) (by kernel_rfl) (by kernel_rfl) (fun _ _ _ h => h) (Or.inl ⟨by rfl, by intro w hSw; go_simp⟩) hHeld ?_
      simp only [Act.put, List.setIfInBounds_toArray, List.set_cons_zero, List.set_cons_succ]
      refine take (i := 2) (d := some 14) (v := .slice (some ⟨b, o, none⟩) 8 c) rfl (by kernel_rfl) (by kernel_rfl) (by kernel_rfl) (by kernel_rfl) (fun _ _ _ h => h) (Or.inl ⟨by rfl, by intro w hSw; obtain ⟨p0, g0⟩ := hSw; go_simp⟩) hHeld ?_
      simp only [Act.put, List.setIfInBounds_toArray, List.set_cons_zero, List.set_cons_succ]
      refine take (i := 3) (d := some 15) (v := .int .i64 k) rfl (by kernel_rfl) (by kernel_rfl) (by kernel_rfl) (by kernel_rfl) (fun _ _ _ h => h) (Or.inl ⟨by rfl, by intro w hSw; go_simp⟩) hHeld ?_
      simp only [Act.put, List.setIfInBounds_toArray, List.set_cons_zero, List.set_cons_succ]
      refine take (i := 4) (d := some 16) (v := .pointer (some ⟨b, o + k, none⟩)) rfl (by kernel_rfl) (by kernel_rfl) (by kernel_rfl) (by kernel_rfl) (fun _ _ _ h => h) (Or.inl ⟨by rfl, by intro w hSw; go_simp⟩) hHeld ?_
      simp only [Act.put, List.setIfInBounds_toArray, List.set_cons_zero, List.set_cons_succ]
      refine take (i := 5) (d := some 17) (v := .int .i64 h) rfl (by kernel_rfl) (by kernel_rfl) (by kernel_rfl) (by kernel_rfl) (fun _ _ _ h => h) (Or.inl ⟨by rfl, by intro w hSw; obtain ⟨p0, g0⟩ := hSw; go_simp⟩) hHeld ?_
      simp only [Act.put, List.setIfInBounds_toArray, List.set_cons_zero, List.set_cons_succ]
      refine take (i := 6) (d := some 18) (v := .int .i64 k) rfl (by kernel_rfl) (by kernel_rfl) (by kernel_rfl) (by kernel_rfl) (fun _ _ _ h => h) (Or.inl ⟨by rfl, by intro w hSw; go_simp⟩) hHeld ?_
      simp only [Act.put, List.setIfInBounds_toArray, List.set_cons_zero, List.set_cons_succ]
      refine take (i := 7) (d := some 19) (v := .int .i64 k) rfl (by kernel_rfl) (by kernel_rfl) (by kernel_rfl) (by kernel_rfl) (fun _ _ _ h => h) (Or.inl ⟨by rfl, by intro w hSw; go_simp⟩) hHeld ?_
      simp only [Act.put, List.setIfInBounds_toArray, List.set_cons_zero, List.set_cons_succ]
      refine wpAnyH_ready (rs := [8]) (by kernel_rfl) (by simp) (Rg.call1 rfl (by kernel_rfl) 123 (.tmp 19) 3 (by kernel_rfl) 20 (by kernel_rfl) (.int .i64 k) (by kernel_rfl) (fun _ => rfl) (HB.out _) ?_ AllReadyH.nil)
      rintro e wq ⟨rfl, hwq⟩
      subst hwq
      refine ⟨_, rfl, hHeld, fun hHeld => ?_⟩
      simp only [Act.put, List.setIfInBounds_toArray, List.set_cons_zero, List.set_cons_succ]
      refine wpAnyH_ready (rs := [9]) (by kernel_rfl) (by simp) (Rg.call2 rfl (by kernel_rfl) 122 (.tmp 18) (.tmp 20) 3 3 (by kernel_rfl) 21 (by kernel_rfl) (.int .i64 k) (.int .i64 B) (by kernel_rfl) (by kernel_rfl) (fun _ => rfl) (HT.out _) ?_ AllReadyH.nil)
      rintro e wq ⟨rfl, hb⟩
      replace p0 := (hb.cell (World.block_lt_of_cell? _ _ p0)).trans p0
      replace g0 := (hb.cell (World.block_lt_of_cell? _ _ g0)).trans g0
      refine ⟨_, rfl, ⟨p0, g0⟩, fun hHeld => ?_⟩
      simp only [Act.put, List.setIfInBounds_toArray, List.set_cons_zero, List.set_cons_succ]
      have hA1 := (HA.out.drew).below hb
      refine take (i := 10) (d := some 22) (v := .agg #[.int .i64 h, .int .i64 T]) rfl (by kernel_rfl) (by kernel_rfl) (by kernel_rfl) (by kernel_rfl) (fun _ _ _ h => h) (Or.inl ⟨by rfl, by intro w hSw; go_simp⟩) hHeld ?_
      simp only [Act.put, List.setIfInBounds_toArray, List.set_cons_zero, List.set_cons_succ]
      refine take (i := 11) (d := some 23) (v := .pointer (some ⟨gA, k * 2, none⟩)) rfl (by kernel_rfl) (by kernel_rfl) (by kernel_rfl) (by kernel_rfl) (fun _ _ _ h => h) (Or.inl ⟨by rfl, by intro w hSw; go_simp⟩) hHeld ?_
      simp only [Act.put, List.setIfInBounds_toArray, List.set_cons_zero, List.set_cons_succ]
      refine wpAnyH_ready (rs := [12]) (by kernel_rfl) (by simp) (Mo.ready64 (g := gA) (k := k) (p := h) (q := T) rfl (by kernel_rfl) (.tmp 23) (.tmp 22) (by kernel_rfl) (by kernel_rfl) (by kernel_rfl) (by kernel_rfl) hA1 hlt ⟨cell_set2 p0 (by omega), cell_set2 g0 (by omega)⟩ (fun hHeld => ?_) AllReadyH.nil)
      simp only [Act.put, List.setIfInBounds_toArray, List.set_cons_zero, List.set_cons_succ]
      refine wpAnyH_done (by kernel_rfl) ?_ _
      go_wp2
      go_roundw
      case rel => exact ⟨k + 1, by omega, by go_num, bset (bset (Rw.next hbel.drew hb) n2) n2, blk_set (blk_set ((hb.block _ z0).trans Q0.out) n0) n0, blk_set (blk_set ((hb.block _ z1).trans Q1.out) n1) n1, ((hA1.set_v hlt _).set_m hlt _).cast eV.out eM.out⟩
      case measure => simp [intOf]; omega
    · have he : k = 8 := by omega
      subst he
      have e8 : lst (cut (nth H) nul 8) = lst (nth H) := by unfold lst; apply List.map_congr_left; intro i hi; simp at hi; simp [cut, hi]
      have e9 : lst (cut fullI nul 8) = lst fullI := by unfold lst; apply List.map_congr_left; intro i hi; simp at hi; simp [cut, hi]
      have E8 : Hid (lst (cut (nth H) nul 8) = lst (nth H)) := e8
      have E9 : Hid (lst (cut fullI nul 8) = lst fullI) := e9
      clear e8 e9 q0 HLT R1
      have sW := hbel.size
      go_wp2_with (first
        | (refine load66 rfl _ rfl rfl ha ?_)
        | (go_at_call 70; refine (match_any _ _ _).mono ?_; rw [E8.out, E9.out]; rintro e w6 ⟨aV, gV, cV, aM, gM, cM, rfl, hV, hM, l1, l2, l3, hb⟩; replace q1 := (hb.block _ z1).trans q1; replace hbel := Rw.next hbel hb; obtain ⟨r0, r1⟩ := two q1; have fr := Bl.free q1; clear hb))
      refine bodyPost_ret (v := .agg #[.slice aV (lst _).length cV, .slice aM (lst _).length cM]) (by simp [results, Try.results68, go_sem, r0, r1]) rfl ⟨aV, gV, cV, aM, gM, cM, rfl, ?_, ?_, by omega, by omega, l3, ?_⟩
      · exact Mj.wt_set2 (Mj.wt_set2 hV (by omega)) (by omega)
      · exact Mj.wt_set2 (Mj.wt_set2 hM (by omega)) (by omega)
      · exact bset (bset hbel (by omega)) (by omega)

end Go.Proofs.Ytcbgnfjnjfaacaa.Mp
namespace Go.Proofs.Ytcbgnfjnjfaacaa.Mh
set_option maxRecDepth 8000
open Go Go.RowKit
open Num Pl Hr Hh Hf Hg Pa Pm Po Pq
set_option linter.unusedSimpArgs false
set_option linter.unusedVariables false

end Go.Proofs.Ytcbgnfjnjfaacaa.Mh
namespace Go.Proofs.Ytcbgnfjnjfaacaa.Mq
set_option maxRecDepth 8000
open Go Go.RowKit
open Num Pl Hr Hh Hf Hg Pa Pm Po Pq Pe Mi Bw Mo Mp
set_option linter.unusedSimpArgs false
set_option linter.unusedVariables false

set_option maxHeartbeats 2000000 in
theorem hits_l (a a' : Option Addr) (n c n' c' : Nat) (p : Option Addr) (m d : Nat) (HV HM : List Int) (R : Bool) (w : World)
    (t0 : ∀ w1, Below w.heap.size w w1 → Calls Try.prog 68 #[.agg #[.slice p m d]] w1 (ResM w1 HV HM))
    (t1 : ∀ w1, Below w.heap.size w w1 → ∀ (aV aM : Option Addr) (gV cV gM cM : Nat), Rd w1 aV gV 0 HV → Rd w1 aM gM 0 HM → Calls Try.prog 15 #[.agg #[.slice a n c, .slice a' n' c'], .agg #[.slice aV HV.length cV, .slice aM HM.length cM]] w1 fun e w' => e = .returned (.bool R) ∧ Below w1.heap.size w1 w') :
    Calls Try.prog 17 #[.agg #[.slice a n c, .slice a' n' c'], .agg #[.slice p m d]] w fun e w' => e = .returned (.bool R) ∧ Below w.heap.size w w' := by
  have T0 : Hid (∀ w1, Below w.heap.size w w1 → Calls Try.prog 68 #[.agg #[.slice p m d]] w1 (ResM w1 HV HM)) := t0
  have T1 : Hid (∀ w1, Below w.heap.size w w1 → ∀ (aV aM : Option Addr) (gV cV gM cM : Nat), Rd w1 aV gV 0 HV → Rd w1 aM gM 0 HM → Calls Try.prog 15 #[.agg #[.slice a n c, .slice a' n' c'], .agg #[.slice aV HV.length cV, .slice aM HM.length cM]] w1 fun e w' => e = .returned (.bool R) ∧ Below w1.heap.size w1 w') := t1
  obtain ⟨W0, hW0⟩ : ∃ W0, W0 = (w.alloc (.cells #[.slice a n c, .slice a' n' c'] 25)).alloc (.cells #[.slice p m d] 27) := ⟨_, rfl⟩
  have B : Below w.heap.size w W0 := by subst hW0; exact Mi.below2 _ _ _
  have k0 : W0.heap[w.heap.size]? = some (.cells #[.slice a n c, .slice a' n' c'] 25 (0, 0)) := by subst hW0; rw [at_old (by simp), at_new rfl]
  have k1 : W0.heap[w.heap.size + 1]? = some (.cells #[.slice p m d] 27 (0, 0)) := by subst hW0; exact at_new (by simp)
  have z0 := (Array.getElem?_eq_some_iff.1 k0).1
  have z1 := (Array.getElem?_eq_some_iff.1 k1).1
  clear t0 t1
  go_enter Try.func17, Try.ntmps17
  go_wp2
  rw [← hW0]
  clear hW0
  refine wp_region_held_drew (S := (fun w' => w'.heap[w.heap.size]? = some (.cells #[.slice a n c, .slice a' n' c'] 25 (0, 0)) ∧ w'.heap[w.heap.size + 1]? = some (.cells #[.slice p m d] 27 (0, 0)))) (by kernel_rfl) ⟨k0, k1⟩ (fun hHeld => ?_)
  refine take (i := 0) (d := some 5) (v := .agg #[.slice a n c, .slice a' n' c']) rfl (by kernel_rfl) (by kernel_rfl) (by kernel_rfl) (by kernel_rfl) (fun _ _ _ h => h) (Or.inl ⟨by rfl, by intro w hSw; obtain ⟨q0, q1⟩ := hSw; obtain ⟨t0, t1⟩ := two q0; go_simp⟩) hHeld ?_
  simp only [Act.put, List.setIfInBounds_toArray, List.set_cons_zero, List.set_cons_succ]
  refine take (i := 1) (d := some 6) (v := .agg #[.slice p m d]) rfl (by kernel_rfl) (by kernel_rfl) (by kernel_rfl) (by kernel_rfl) (fun _ _ _ h => h) (Or.inl ⟨by rfl, by intro w hSw; obtain ⟨q0, q1⟩ := hSw; have t0 := one q1; go_simp⟩) hHeld ?_
  simp only [Act.put, List.setIfInBounds_toArray, List.set_cons_zero, List.set_cons_succ]
  refine wpAnyH_ready (rs := [2]) (by kernel_rfl) (by simp) (Rg.call1 rfl (by kernel_rfl) 68 (.tmp 6) 27 (by kernel_rfl) 7 (by kernel_rfl) (.agg #[.slice p m d]) (by kernel_rfl) (fun _ => rfl) (T0.out _ B.drew) ?_ AllReadyH.nil)
  rintro e w3 ⟨aV, gV, cV, aM, gM, cM, rfl, hV, hM, l1, l2, l3, hb⟩
  refine ⟨_, rfl, ⟨(hb.block _ z0).trans k0, (hb.block _ z1).trans k1⟩, fun hHeld => ?_⟩
  simp only [Act.put, List.setIfInBounds_toArray, List.set_cons_zero, List.set_cons_succ]
  have B1 := Rw.next B.drew hb
  have k0a : w3.heap[w.heap.size]? = some (.cells #[.slice a n c, .slice a' n' c'] 25 (0, 0)) := (hb.block _ z0).trans k0
  have k1a : w3.heap[w.heap.size + 1]? = some (.cells #[.slice p m d] 27 (0, 0)) := (hb.block _ z1).trans k1
  have z0a := Nat.lt_of_lt_of_le z0 hb.size
  have z1a := Nat.lt_of_lt_of_le z1 hb.size
  clear hb
  refine wpAnyH_ready (rs := [3]) (by kernel_rfl) (by simp) (Rg.call2 rfl (by kernel_rfl) 15 (.tmp 5) (.tmp 7) 25 25 (by kernel_rfl) 8 (by kernel_rfl) (.agg #[.slice a n c, .slice a' n' c']) (.agg #[.slice aV HV.length cV, .slice aM HM.length cM]) (by kernel_rfl) (by kernel_rfl) (fun _ => rfl) (T1.out _ B1 _ _ _ _ _ _ hV.rd hM.rd) ?_ AllReadyH.nil)
  rintro e w4 ⟨rfl, hb⟩
  refine ⟨_, rfl, ⟨(hb.block _ z0a).trans k0a, (hb.block _ z1a).trans k1a⟩, fun hHeld => ?_⟩
  simp only [Act.put, List.setIfInBounds_toArray, List.set_cons_zero, List.set_cons_succ]
  refine take (i := 4) (d := some 4) (v := .bool R) rfl (by kernel_rfl) (by kernel_rfl) (by kernel_rfl) (by kernel_rfl) (fun _ _ _ h => h) (Or.inl ⟨by rfl, by intro w hSw; go_simp⟩) hHeld ?_
  simp only [Act.put, List.setIfInBounds_toArray, List.set_cons_zero, List.set_cons_succ]
  refine wpAnyH_done (by kernel_rfl) ?_ _
  go_wp2_with fail
  go_ret
  exact ⟨rfl, Rw.next B1 hb⟩

theorem full_eq (k : Nat) : fullI k = ((2 ^ fbN k - 1 : Nat) : Int) := by
  unfold fullI topI Bt.top
  rw [Nat.sub_self, Nat.pow_zero, Nat.mul_one]
theorem full_lt (k : Nat) : 0 ≤ fullI k ∧ fullI k < 281474976710656 := by
  rw [full_eq]
  have h1 : (2 ^ fbN k : Nat) ≤ 2 ^ 48 := Nat.pow_le_pow_right (by decide) (fbN_le k)
  have h3 : (2 ^ fbN k : Nat) ≤ 281474976710656 := h1
  have hp : 0 < 2 ^ fbN k := Nat.pow_pos (by decide)
  generalize (2 ^ fbN k : Nat) = Q at *
  omega
theorem fb_pos {k : Nat} (h : k < 8) : 0 < fbN k := by
  rcases Hs.k8 h with rfl | rfl | rfl | rfl | rfl | rfl | rfl | rfl <;> decide
theorem fits_full {k : Nat} (h : k < 8) : fits k (fullI k) = true := by
  rcases Hs.k8 h with rfl | rfl | rfl | rfl | rfl | rfl | rfl | rfl <;> decide
theorem or_full {n b : Nat} (h : n < 2 ^ b) : n ||| (2 ^ b - 1) = 2 ^ b - 1 := by
  rw [Bt.within_iff]
  intro i hi
  rw [Nat.testBit_two_pow_sub_one]
  refine decide_eq_true (Nat.lt_of_not_le fun hle => ?_)
  rw [Bt.testBit_out h hle] at hi
  exact absurd hi (by simp)
theorem and_full {n b : Nat} (h : n < 2 ^ b) : (2 ^ b - 1) &&& n = n := by
  have := (Bt.within_or_and n (2 ^ b - 1)).1 (or_full h)
  rw [Nat.and_comm]
  exact this

/-- What a right head says of its places. -/
theorem head_at {H : List Int} (h : headB H = true) {k : Nat} (hk : k < 8) : fits k (H.getD k 0) = true := by
  unfold headB at h
  simp only [Bool.and_eq_true, decide_eq_true_eq] at h
  have key : ∀ j, upto H j = true → ∀ i, i < j → fits i (H.getD i 0) = true := by
    intro j
    induction j with
    | zero => intro _ i hi; omega
    | succ j ih =>
      intro hu i hi
      simp only [upto, Bool.and_eq_true] at hu
      by_cases e : i = j
      · subst e; exact hu.2
      · exact ih hu.1 i (by omega)
  exact key 8 h.2 k hk
theorem head_len {H : List Int} (h : headB H = true) : H.length = 8 := by
  unfold headB at h
  simp only [Bool.and_eq_true, decide_eq_true_eq] at h
  exact h.1
theorem lst_getD (v : Nat → Int) {k : Nat} (h : k < 8) : (lst v).getD k 0 = v k := lst_at v h
theorem of_ok {H : List Int} (h : headB H = true) : matchB (lst (nth H)) (lst fullI) = true := by
  unfold matchB
  rw [lst_len, lst_len]
  have key : ∀ j, j ≤ 8 → uptoP (lst (nth H)) (lst fullI) j = true := by
    intro j
    induction j with
    | zero => intro _; rfl
    | succ j ih =>
      intro hj
      simp only [uptoP, ih (by omega), Bool.true_and]
      rw [lst_at _ (by omega), lst_at _ (by omega)]
      unfold pairB
      have hf := head_at h (k := j) (by omega)
      rw [fits_full (by omega)]
      simp only [Bool.true_and, decide_eq_true_eq]
      refine ⟨(fits_lt hf).1, ?_⟩
      rw [full_eq, Int.toNat_natCast]
      exact or_full (fits_pow hf)
  rw [key 8 (Nat.le_refl _)]
  rfl
theorem wide_lst {v : Nat → Int} (h : ∀ k, k < 8 → I64 (v k)) : Wide (lst v) := by
  intro k
  by_cases hk : k < 8
  · rw [lst_at v hk]; exact h k hk
  · have e : (lst v).getD k 0 = 0 := by simp [List.getD, List.getElem?_eq_none (by rw [lst_len]; omega : (lst v).length ≤ k)]
    rw [e]
    unfold I64
    omega

/-- What the program asks of a right match and a right head is what the specification asks bit by bit. -/
theorem hits_iff {V M H : List Int} (h : matchB V M = true) (hh : headB H = true) :
    sameB (fun k => bits .and .i64 (nth (lst (nth H)) k) (nth M k)) (fun k => bits .and .i64 (nth (lst fullI) k) (nth M k)) (nth V) (nth M) = true ↔ ∀ f, f < 8 → ∀ i, i < fbN f → (bitI (M.getD f 0) i = 1 → bitI (V.getD f 0) i = bitI (H.getD f 0) i) := by
  rw [Lb.sameB_iff]
  have key : ∀ f, f < 8 → ((bits .and .i64 (nth (lst (nth H)) f) (nth M f) = nth V f ∧ bits .and .i64 (nth (lst fullI) f) (nth M f) = nth M f) ↔ ∀ i, i < fbN f → (bitI (M.getD f 0) i = 1 → bitI (V.getD f 0) i = bitI (H.getD f 0) i)) := by
    intro f hf
    obtain ⟨a1, a2, a3, a4, a5, a6⟩ := Lc.at_ok h hf
    have b1 := head_at hh hf
    have b2 := fits_lt b1
    have b3 := full_lt f
    unfold nth
    rw [lst_at _ hf, lst_at _ hf, Lc.and_nat b2.1 b2.2 a4 a5, Lc.and_nat b3.1 b3.2 a4 a5, Lc.cast_eq a2, Lc.cast_eq a4, full_eq, Int.toNat_natCast, and_full (fits_pow a1)]
    simp only [and_true]
    have := Bt.hits_iff (H := (H.getD f 0).toNat) a3 (fits_pow a1)
    simp only [bit_iff, bit_eq_iff]
    rw [this]
  exact ⟨fun q f hf => (key f hf).1 (q f hf), fun q f hf => (key f hf).2 (q f hf)⟩

end Go.Proofs.Ytcbgnfjnjfaacaa.Mq
namespace Go.Proofs.Ytcbgnfjnjfaacaa.Ld
set_option maxRecDepth 8000
open Go Go.RowKit
open Num Pl Hr Hh Hf Hg Pa Pm Po Pe Rg Lb Lc Bw Mo Mp Mq
set_option linter.unusedVariables false

/-- The match of a head: nothing where the head isn't right. -/
def ofV (H : List Int) : List Int := if headB H = true then lst (nth H) else []
def ofM (H : List Int) : List Int := if headB H = true then lst fullI else []
theorem of_any {H : List Int} {a : Option Addr} {b o : Nat} (c : Nat) {w : World} (h : Rd w a b o H) : ∀ w1, Below w.heap.size w w1 → Calls Try.prog 68 #[.agg #[.slice a H.length c]] w1 (ResM w1 (ofV H) (ofM H)) := by
  intro w1 hb
  have h1 := h.below hb
  unfold ofV ofM
  cases hh : headB H with
  | false =>
    refine of_no a H.length c w1 (fun w2 h2 => ?_)
    have := implOk_any a b o c H w2 (h1.below h2)
    rw [hh] at this
    exact this
  | true =>
    have l8 := Mq.head_len hh
    obtain rfl := rd_some h1 l8
    have g := h1.cell
    have t : ∀ w2, Below w1.heap.size w1 w2 → Calls Try.prog 121 #[.agg #[.slice (some ⟨b, o, none⟩) H.length c]] w2 fun e w' => e = .returned (.bool true) ∧ Below w2.heap.size w2 w' := by
      intro w2 h2
      have := implOk_any _ b o c H w2 (h1.below h2)
      rw [hh] at this
      exact this
    rw [l8] at t g ⊢
    exact of_yes b o c H w1 g t
theorem wide_ofV {H : List Int} (hW : Wide H) : Wide (ofV H) := by
  unfold ofV
  cases headB H with
  | false => intro k; simp [I64]
  | true => exact wide_lst (fun k _ => hW k)
theorem ofB (H : List Int) : matchB (ofV H) (ofM H) = headB H := by
  unfold ofV ofM
  cases hh : headB H with
  | false => rfl
  | true => exact of_ok hh
/-- What the program's Hits answers. -/
def hitB (V M H : List Int) : Bool := (matchB V M && matchB (ofV H) (ofM H)) && sameB (fun k => bits .and .i64 (pv (ofV H) (ofM H) k) (pm V M k)) (fun k => bits .and .i64 (pm (ofV H) (ofM H) k) (pm V M k)) (pv V M) (pm V M)
theorem hits_any (V M H : List Int) (wV : Wide V) (wH : Wide H) : CMH 17 V M H (Bo (hitB V M H)) := by
  intro a a' b o c b' o' c' p q r s w h1 h2 h3
  refine hits_l a a' _ c _ c' p _ s (ofV H) (ofM H) _ w (of_any s h3) ?_
  intro w1 hb aV aM gV cV gM cM r1 r2
  exact Mi.covers_l a a' aV aM _ _ _ _ c c' cV cM _ _ _ _ _ w1 (Mi.two_any c c' cV cM (h1.below hb) (h2.below hb) wV r1 r2 (wide_ofV wH))
theorem headT {H : List Int} {a : Option Addr} {b o : Nat} (c : Nat) {w : World} (h1 : Rd w a b o H) {P : Bool} (hP : headB H = P) :
    ∀ w1, Below w.heap.size w w1 → Calls Try.prog 97 #[.agg #[.slice a H.length c]] w1 fun e w' => e = .returned (.bool P) ∧ Below w1.heap.size w1 w' := by
  intro w1 hb
  have := specOk_any a b o c H w1 (h1.below hb)
  rw [hP] at this
  exact this
end Go.Proofs.Ytcbgnfjnjfaacaa.Ld
namespace Go.Proofs.Ytcbgnfjnjfaacaa.Lc
set_option maxRecDepth 8000
set_option linter.unusedVariables false
open Go Go.RowKit
open Num Pl Hr Hh Hf Hg Pa Pm Po Pe Rg Lb Bw
set_option maxHeartbeats 1000000 in
theorem hit_wrong1 (a a' : Option Addr) (n c n' c' : Nat) (p : Option Addr) (m d : Nat) (w : World) (t0 : ∀ w1, Below w.heap.size w w1 → Calls Try.prog 62 #[.agg #[.slice a n c, .slice a' n' c']] w1 fun e w' => e = .returned (.bool false) ∧ Below w1.heap.size w1 w') :
    Calls Try.prog 102 #[.agg #[.slice a n c, .slice a' n' c'], .agg #[.slice p m d]] w fun e w' => e = .returned (.bool false) ∧ Below w.heap.size w w' := by
  have T0 : Hid (∀ w1, Below w.heap.size w w1 → Calls Try.prog 62 #[.agg #[.slice a n c, .slice a' n' c']] w1 fun e w' => e = .returned (.bool false) ∧ Below w1.heap.size w1 w') := t0
  obtain ⟨W0, hW0⟩ : ∃ W0, W0 = ((w.alloc (.cells #[.slice a n c, .slice a' n' c'] 25)).alloc (.cells #[.slice p m d] 27)) := ⟨_, rfl⟩
  have B : Below w.heap.size w W0 := by subst hW0; exact Mi.below2 _ _ _
  clear t0
  go_enter Try.func102, Try.ntmps102
  go_wp2_with (go_at_call 62; rw [← hW0]; refine (T0.out _ B).mono ?_; rintro e wa ⟨rfl, hb⟩; replace B := Rw.next B hb)
  go_ret
  exact ⟨rfl, B⟩

set_option maxHeartbeats 1000000 in
theorem hit_wrong2 (a a' : Option Addr) (n c n' c' : Nat) (p : Option Addr) (m d : Nat) (w : World) (t0 : ∀ w1, Below w.heap.size w w1 → Calls Try.prog 62 #[.agg #[.slice a n c, .slice a' n' c']] w1 fun e w' => e = .returned (.bool true) ∧ Below w1.heap.size w1 w') (t1 : ∀ w1, Below w.heap.size w w1 → Calls Try.prog 97 #[.agg #[.slice p m d]] w1 fun e w' => e = .returned (.bool false) ∧ Below w1.heap.size w1 w') :
    Calls Try.prog 102 #[.agg #[.slice a n c, .slice a' n' c'], .agg #[.slice p m d]] w fun e w' => e = .returned (.bool false) ∧ Below w.heap.size w w' := by
  have T0 : Hid (∀ w1, Below w.heap.size w w1 → Calls Try.prog 62 #[.agg #[.slice a n c, .slice a' n' c']] w1 fun e w' => e = .returned (.bool true) ∧ Below w1.heap.size w1 w') := t0
  have T1 : Hid (∀ w1, Below w.heap.size w w1 → Calls Try.prog 97 #[.agg #[.slice p m d]] w1 fun e w' => e = .returned (.bool false) ∧ Below w1.heap.size w1 w') := t1
  obtain ⟨W0, hW0⟩ : ∃ W0, W0 = ((w.alloc (.cells #[.slice a n c, .slice a' n' c'] 25)).alloc (.cells #[.slice p m d] 27)) := ⟨_, rfl⟩
  have B : Below w.heap.size w W0 := by subst hW0; exact Mi.below2 _ _ _
  clear t0 t1
  have k1 : W0.heap[w.heap.size + 1]? = some (.cells #[.slice p m d] 27 (0, 0)) := by subst hW0; exact at_new (by simp)
  have tok1 : True := trivial
  go_enter Try.func102, Try.ntmps102
  go_wp2_with (first
    | (go_at_call 62; clear tok1; rw [← hW0]; refine (T0.out _ B).mono ?_; rintro e wa ⟨rfl, hb⟩; replace k1 := (hb.block _ (Array.getElem?_eq_some_iff.1 k1).1).trans k1; have q0 := one k1; replace B := Rw.next B hb; clear hb; have tok2 : True := trivial)
    | (go_at_call 97; clear tok2; refine (T1.out _ B).mono ?_; rintro e wb ⟨rfl, hb⟩; replace B := Rw.next B hb))
  go_ret
  exact ⟨rfl, B⟩

end Go.Proofs.Ytcbgnfjnjfaacaa.Lc
namespace Go.Proofs.Ytcbgnfjnjfaacaa.Mh
set_option maxRecDepth 8000
set_option linter.unusedVariables false
open Go Go.RowKit
open Num Pl Hr Hh Hf Hg Pa Pm Po Pq
set_option maxHeartbeats 8000000 in
theorem hitsS (b1 o1 c1 : Nat) (b2 o2 c2 : Nat) (b3 o3 c3 : Nat) (V M H : List Int) (w : World)
    (r1 : ∀ k, k < 8 → w.cell? ⟨b1, o1 + k, none⟩ = some (.int .i64 (V.getD k 0))) (r2 : ∀ k, k < 8 → w.cell? ⟨b2, o2 + k, none⟩ = some (.int .i64 (M.getD k 0))) (r3 : ∀ k, k < 8 → w.cell? ⟨b3, o3 + k, none⟩ = some (.int .i64 (H.getD k 0)))
    (d1 : ∀ k, k < 8 → 0 ≤ V.getD k 0 ∧ V.getD k 0 < 281474976710656) (d2 : ∀ k, k < 8 → 0 ≤ M.getD k 0 ∧ M.getD k 0 < 281474976710656) (d3 : ∀ k, k < 8 → 0 ≤ H.getD k 0 ∧ H.getD k 0 < 281474976710656)
    (t0 : ∀ w1, Below w.heap.size w w1 → Calls Try.prog 62 #[.agg #[.slice (some ⟨b1, o1, none⟩) 8 c1, .slice (some ⟨b2, o2, none⟩) 8 c2]] w1 fun e w' => e = .returned (.bool true) ∧ Below w1.heap.size w1 w')
    (t1 : ∀ w1, Below w.heap.size w w1 → Calls Try.prog 97 #[.agg #[.slice (some ⟨b3, o3, none⟩) 8 c3]] w1 fun e w' => e = .returned (.bool true) ∧ Below w1.heap.size w1 w')
    (R : Bool) (hR : R = true ↔ ∀ f, f < 8 → ∀ i, i < Bw.fbN f → (Bw.bitI (M.getD f 0) i = 1 → Bw.bitI (V.getD f 0) i = Bw.bitI (H.getD f 0) i)) :
    Calls Try.prog 102 #[.agg #[.slice (some ⟨b1, o1, none⟩) 8 c1, .slice (some ⟨b2, o2, none⟩) 8 c2], .agg #[.slice (some ⟨b3, o3, none⟩) 8 c3]] w fun e w' => e = .returned (.bool R) ∧ Below w.heap.size w w' := by
  have R1 : Hid (∀ k, k < 8 → w.cell? ⟨b1, o1 + k, none⟩ = some (.int .i64 (V.getD k 0))) := r1
  have D1 : Hid (∀ k, k < 8 → 0 ≤ V.getD k 0 ∧ V.getD k 0 < 281474976710656) := d1
  have R2 : Hid (∀ k, k < 8 → w.cell? ⟨b2, o2 + k, none⟩ = some (.int .i64 (M.getD k 0))) := r2
  have D2 : Hid (∀ k, k < 8 → 0 ≤ M.getD k 0 ∧ M.getD k 0 < 281474976710656) := d2
  have R3 : Hid (∀ k, k < 8 → w.cell? ⟨b3, o3 + k, none⟩ = some (.int .i64 (H.getD k 0))) := r3
  have D3 : Hid (∀ k, k < 8 → 0 ≤ H.getD k 0 ∧ H.getD k 0 < 281474976710656) := d3
  have T0 : Hid (∀ w1, Below w.heap.size w w1 → Calls Try.prog 62 #[.agg #[.slice (some ⟨b1, o1, none⟩) 8 c1, .slice (some ⟨b2, o2, none⟩) 8 c2]] w1 fun e w' => e = .returned (.bool true) ∧ Below w1.heap.size w1 w') := t0
  have T1 : Hid (∀ w1, Below w.heap.size w w1 → Calls Try.prog 97 #[.agg #[.slice (some ⟨b3, o3, none⟩) 8 c3]] w1 fun e w' => e = .returned (.bool true) ∧ Below w1.heap.size w1 w') := t1
  have HR : Hid (R = true ↔ ∀ f, f < 8 → ∀ i, i < Bw.fbN f → (Bw.bitI (M.getD f 0) i = 1 → Bw.bitI (V.getD f 0) i = Bw.bitI (H.getD f 0) i)) := hR
  clear hR t0 t1 r1 d1 r2 d2 r3 d3
  obtain ⟨W0, hW0⟩ : ∃ W0, W0 = (w.alloc (.cells #[.slice (some ⟨b1, o1, none⟩) 8 c1, .slice (some ⟨b2, o2, none⟩) 8 c2] 25)).alloc (.cells #[.slice (some ⟨b3, o3, none⟩) 8 c3] 27) := ⟨_, rfl⟩
  have B : Below w.heap.size w W0 := by subst hW0; exact Mi.below2 _ _ _
  have k0 : W0.heap[w.heap.size]? = some (.cells #[.slice (some ⟨b1, o1, none⟩) 8 c1, .slice (some ⟨b2, o2, none⟩) 8 c2] 25 (0, 0)) := by subst hW0; rw [at_old (by simp), at_new rfl]
  have k1 : W0.heap[w.heap.size + 1]? = some (.cells #[.slice (some ⟨b3, o3, none⟩) 8 c3] 27 (0, 0)) := by subst hW0; exact at_new (by simp)
  have tok1 : True := trivial
  go_enter Try.func102, Try.ntmps102
  go_wp2_with (first
    | (go_at_call 62; clear tok1; rw [← hW0]; refine (T0.out _ B).mono ?_; rintro e wa ⟨rfl, hb⟩; replace k0 := (hb.block _ (Array.getElem?_eq_some_iff.1 k0).1).trans k0; replace k1 := (hb.block _ (Array.getElem?_eq_some_iff.1 k1).1).trans k1; obtain ⟨p00, p01⟩ := two k0; have p10 := one k1; replace B := Rw.next B hb; clear hb; have tok2 : True := trivial)
    | (go_at_call 97; clear tok2; refine (T1.out _ B).mono ?_; rintro e wb ⟨rfl, hb⟩; clear p00 p01 p10; replace k0 := (hb.block _ (Array.getElem?_eq_some_iff.1 k0).1).trans k0; replace k1 := (hb.block _ (Array.getElem?_eq_some_iff.1 k1).1).trans k1; obtain ⟨p00, p01⟩ := two k0; have p10 := one k1; replace B := Rw.next B hb; clear hb))
  clear p00 p01 p10 hW0 T0 T1
  go_loopw [5] (fun i wr => ∃ k : Nat, k ≤ 8 ∧ i = .int .i64 k ∧ Below w.heap.size w wr ∧ wr.heap[w.heap.size]? = some (.cells #[.slice (some ⟨b1, o1, none⟩) 8 c1, .slice (some ⟨b2, o2, none⟩) 8 c2] 25 (0, 0)) ∧ wr.heap[w.heap.size + 1]? = some (.cells #[.slice (some ⟨b3, o3, none⟩) 8 c3] 27 (0, 0)) ∧ ∀ f, f < k → ∀ i, i < Bw.fbN f → (Bw.bitI (M.getD f 0) i = 1 → Bw.bitI (V.getD f 0) i = Bw.bitI (H.getD f 0) i)) (fun i _ => 8 - (intOf i).toNat)
  case atStart => exact ⟨0, Nat.zero_le _, rfl, B, k0, k1, fun f hf => by omega⟩
  case round =>
    obtain ⟨k, hk, rfl, hbo, q0, q1, hgo⟩ := hrel
    have HG : Hid (∀ f, f < k → ∀ i, i < Bw.fbN f → (Bw.bitI (M.getD f 0) i = 1 → Bw.bitI (V.getD f 0) i = Bw.bitI (H.getD f 0) i)) := hgo
    clear hgo B k0 k1
    by_cases hlt : k < 8
    · have hkz : (k : Int) < 8 := by omega
      have h48 := Bw.fbN_le k
      have HF : Hid (∀ w, Calls Try.prog 66 #[.int .i64 k] w fun e w' => e = .returned (.int .i64 (Bw.fbN k : Int)) ∧ Below w.heap.size w w') := (fun w => by have := specBits_any k w; rw [Bw.fbN_eq] at this; exact this : ∀ w, Calls Try.prog 66 #[.int .i64 k] w fun e w' => e = .returned (.int .i64 (Bw.fbN k : Int)) ∧ Below w.heap.size w w')
      go_wp2
      go_loopw [6] (fun i wr => ∃ j : Nat, j ≤ Bw.fbN k ∧ i = .int .i64 j ∧ Below w.heap.size w wr ∧ wr.heap[w.heap.size]? = some (.cells #[.slice (some ⟨b1, o1, none⟩) 8 c1, .slice (some ⟨b2, o2, none⟩) 8 c2] 25 (0, 0)) ∧ wr.heap[w.heap.size + 1]? = some (.cells #[.slice (some ⟨b3, o3, none⟩) 8 c3] 27 (0, 0)) ∧ ∀ i, i < j → (Bw.bitI (M.getD k 0) i = 1 → Bw.bitI (V.getD k 0) i = Bw.bitI (H.getD k 0) i)) (fun i _ => Bw.fbN k - (intOf i).toNat)
      case atStart => exact ⟨0, Nat.zero_le _, rfl, hbo, q0, q1, fun i hi => by omega⟩
      case round =>
        obtain ⟨j, hj, rfl, hbel, q0, q1, hgi⟩ := hrel
        have HI : Hid (∀ i, i < j → (Bw.bitI (M.getD k 0) i = 1 → Bw.bitI (V.getD k 0) i = Bw.bitI (H.getD k 0) i)) := hgi
        clear hgi
        by_cases hjl : j < Bw.fbN k
        · have hjz : (j : Int) < (Bw.fbN k : Int) := by omega
          have hj48 : j < 48 := by omega
          go_wp2_with (go_at_call 66; refine (HF.out _).mono ?_; rintro e ws ⟨rfl, hb⟩; replace q0 := (hb.block _ (Array.getElem?_eq_some_iff.1 q0).1).trans q0; replace q1 := (hb.block _ (Array.getElem?_eq_some_iff.1 q1).1).trans q1; replace hbel := Rw.next hbel hb; clear hb)
          have Q0 : Hid (ws.heap[w.heap.size]? = some (.cells #[.slice (some ⟨b1, o1, none⟩) 8 c1, .slice (some ⟨b2, o2, none⟩) 8 c2] 25 (0, 0))) := q0
          have Q1 : Hid (ws.heap[w.heap.size + 1]? = some (.cells #[.slice (some ⟨b3, o3, none⟩) 8 c3] 27 (0, 0))) := q1
          obtain ⟨p00, p01⟩ := two q0
          have p10 := one q1
          clear q0 q1
          have g1 : ws.cell? ⟨b1, o1 + k, none⟩ = some (.int .i64 (V.getD k 0)) := (hbel.cell (World.block_lt_of_cell? _ _ (R1.out k hlt))).trans (R1.out k hlt)
          have H1 : Hid (∀ w, Calls Try.prog 67 #[.int .i64 (V.getD k 0), .int .i64 j] w fun e w' => e = .returned (.int .i64 (Bw.bitI (V.getD k 0) j)) ∧ w' = w) := (fun w => Bw.bit_any _ _ (D1.out k hlt).1 (D1.out k hlt).2 hj48 w : ∀ w, Calls Try.prog 67 #[.int .i64 (V.getD k 0), .int .i64 j] w fun e w' => e = .returned (.int .i64 (Bw.bitI (V.getD k 0) j)) ∧ w' = w)
          have y1 := Bw.bit_01 (V.getD k 0) j
          have g2 : ws.cell? ⟨b2, o2 + k, none⟩ = some (.int .i64 (M.getD k 0)) := (hbel.cell (World.block_lt_of_cell? _ _ (R2.out k hlt))).trans (R2.out k hlt)
          have H2 : Hid (∀ w, Calls Try.prog 67 #[.int .i64 (M.getD k 0), .int .i64 j] w fun e w' => e = .returned (.int .i64 (Bw.bitI (M.getD k 0) j)) ∧ w' = w) := (fun w => Bw.bit_any _ _ (D2.out k hlt).1 (D2.out k hlt).2 hj48 w : ∀ w, Calls Try.prog 67 #[.int .i64 (M.getD k 0), .int .i64 j] w fun e w' => e = .returned (.int .i64 (Bw.bitI (M.getD k 0) j)) ∧ w' = w)
          have y2 := Bw.bit_01 (M.getD k 0) j
          have g3 : ws.cell? ⟨b3, o3 + k, none⟩ = some (.int .i64 (H.getD k 0)) := (hbel.cell (World.block_lt_of_cell? _ _ (R3.out k hlt))).trans (R3.out k hlt)
          have H3 : Hid (∀ w, Calls Try.prog 67 #[.int .i64 (H.getD k 0), .int .i64 j] w fun e w' => e = .returned (.int .i64 (Bw.bitI (H.getD k 0) j)) ∧ w' = w) := (fun w => Bw.bit_any _ _ (D3.out k hlt).1 (D3.out k hlt).2 hj48 w : ∀ w, Calls Try.prog 67 #[.int .i64 (H.getD k 0), .int .i64 j] w fun e w' => e = .returned (.int .i64 (Bw.bitI (H.getD k 0) j)) ∧ w' = w)
          have y3 := Bw.bit_01 (H.getD k 0) j
          have HN : Hid (¬ (Bw.bitI (M.getD k 0) j = 1 → Bw.bitI (V.getD k 0) j = Bw.bitI (H.getD k 0) j) → R = false) := (fun h => by cases hr : R with | false => rfl | true => exact absurd (HR.out.1 hr k hlt j hjl) h : ¬ (Bw.bitI (M.getD k 0) j = 1 → Bw.bitI (V.getD k 0) j = Bw.bitI (H.getD k 0) j) → R = false)
          have HY : Hid ((Bw.bitI (M.getD k 0) j = 1 → Bw.bitI (V.getD k 0) j = Bw.bitI (H.getD k 0) j) → ∀ i, i < j + 1 → (Bw.bitI (M.getD k 0) i = 1 → Bw.bitI (V.getD k 0) i = Bw.bitI (H.getD k 0) i)) := (fun h i hi => by by_cases e : i = j; (· subst e; exact h); (· exact HI.out i (by omega)) : (Bw.bitI (M.getD k 0) j = 1 → Bw.bitI (V.getD k 0) j = Bw.bitI (H.getD k 0) j) → ∀ i, i < j + 1 → (Bw.bitI (M.getD k 0) i = 1 → Bw.bitI (V.getD k 0) i = Bw.bitI (H.getD k 0) i))
          generalize e1a : Bw.bitI (V.getD k 0) j = x1 at *
          generalize e1b : V.getD k 0 = m1 at H1 g1
          generalize e2a : Bw.bitI (M.getD k 0) j = x2 at *
          generalize e2b : M.getD k 0 = m2 at H2 g2
          generalize e3a : Bw.bitI (H.getD k 0) j = x3 at *
          generalize e3b : H.getD k 0 = m3 at H3 g3
          clear e1a e1b e2a e2b e3a e3b
          clear HI HF D1 D2 D3
          have hc : x2 = 0 ∨ (x2 = 1 ∧ x1 = x3) ∨ (x2 = 1 ∧ ¬ x1 = x3) := by omega
          rcases hc with u | ⟨u, t⟩ | ⟨u, t⟩
          · have U : Hid (x2 = 0) := u
            have f1 : (x2 == 1) = false := by rw [u]; rfl
            clear u y1 y2 y3
            refine wp_region_held_drew (S := (fun w' => w'.cell? ⟨w.heap.size, 0, none⟩ = some (.slice (some ⟨b1, o1, none⟩) 8 c1) ∧ w'.cell? ⟨w.heap.size, 1, none⟩ = some (.slice (some ⟨b2, o2, none⟩) 8 c2) ∧ w'.cell? ⟨w.heap.size + 1, 0, none⟩ = some (.slice (some ⟨b3, o3, none⟩) 8 c3) ∧ w'.cell? ⟨b1, o1 + k, none⟩ = some (.int .i64 m1) ∧ w'.cell? ⟨b2, o2 + k, none⟩ = some (.int .i64 m2) ∧ w'.cell? ⟨b3, o3 + k, none⟩ = some (.int .i64 m3))) (by kernel_rfl) ⟨p00, p01, p10, g1, g2, g3⟩ (fun hHeld => ?_)
            refine take (i := 0) (d := some 25) (v := .pointer (some ⟨w.heap.size, 1, none⟩)) rfl (by kernel_rfl) (by kernel_rfl) (by kernel_rfl) (by kernel_rfl) (fun _ _ _ h => h) (Or.inl ⟨by rfl, by intro w hSw; go_simp⟩) hHeld ?_
            simp only [Act.put, List.setIfInBounds_toArray, List.set_cons_zero, List.set_cons_succ]
            refine take (i := 1) (d := some 26) (v := .slice (some ⟨b2, o2, none⟩) 8 c2) rfl (by kernel_rfl) (by kernel_rfl) (by kernel_rfl) (by kernel_rfl) (fun _ _ _ h => h) (Or.inl ⟨by rfl, by intro w hSw; obtain ⟨p00, p01, p10, g1, g2, g3⟩ := hSw; go_simp⟩) hHeld ?_
            simp only [Act.put, List.setIfInBounds_toArray, List.set_cons_zero, List.set_cons_succ]
            refine take (i := 2) (d := some 27) (v := .int .i64 k) rfl (by kernel_rfl) (by kernel_rfl) (by kernel_rfl) (by kernel_rfl) (fun _ _ _ h => h) (Or.inl ⟨by rfl, by intro w hSw; go_simp⟩) hHeld ?_
            simp only [Act.put, List.setIfInBounds_toArray, List.set_cons_zero, List.set_cons_succ]
            refine take (i := 3) (d := some 28) (v := .pointer (some ⟨b2, o2 + k, none⟩)) rfl (by kernel_rfl) (by kernel_rfl) (by kernel_rfl) (by kernel_rfl) (fun _ _ _ h => h) (Or.inl ⟨by rfl, by intro w hSw; go_simp⟩) hHeld ?_
            simp only [Act.put, List.setIfInBounds_toArray, List.set_cons_zero, List.set_cons_succ]
            refine take (i := 4) (d := some 29) (v := .int .i64 m2) rfl (by kernel_rfl) (by kernel_rfl) (by kernel_rfl) (by kernel_rfl) (fun _ _ _ h => h) (Or.inl ⟨by rfl, by intro w hSw; obtain ⟨p00, p01, p10, g1, g2, g3⟩ := hSw; go_simp⟩) hHeld ?_
            simp only [Act.put, List.setIfInBounds_toArray, List.set_cons_zero, List.set_cons_succ]
            refine take (i := 5) (d := some 30) (v := .int .i64 j) rfl (by kernel_rfl) (by kernel_rfl) (by kernel_rfl) (by kernel_rfl) (fun _ _ _ h => h) (Or.inl ⟨by rfl, by intro w hSw; go_simp⟩) hHeld ?_
            simp only [Act.put, List.setIfInBounds_toArray, List.set_cons_zero, List.set_cons_succ]
            refine wpAnyH_ready (rs := [6]) (by kernel_rfl) (by simp) (Mi.readyCall2 rfl (by kernel_rfl) 67 (.tmp 29) (.tmp 30) 3 3 (by kernel_rfl) 31 (by kernel_rfl) _ _ (by kernel_rfl) (by kernel_rfl) (fun _ => rfl) (H2.out _) (fun wx hb => by rw [hb]; exact hHeld) (fun wx hb hHeld => ?_) AllReadyH.nil)
            subst hb
            simp only [Act.put, List.setIfInBounds_toArray, List.set_cons_zero, List.set_cons_succ]
            refine take (i := 7) (d := some 32) (v := .bool false) rfl (by kernel_rfl) (by kernel_rfl) (by kernel_rfl) (by kernel_rfl) (fun _ _ _ h => h) (Or.inl ⟨by rfl, by intro w hSw; go_simp⟩) hHeld ?_
            simp only [Act.put, List.setIfInBounds_toArray, List.set_cons_zero, List.set_cons_succ]
            refine take (i := 8) (d := some 33) (v := .bool false) rfl (by kernel_rfl) (by kernel_rfl) (by kernel_rfl) (by kernel_rfl) (fun _ _ _ h => h) (Or.inl ⟨by rfl, by intro w hSw; go_simp⟩) hHeld ?_
            simp only [Act.put, List.setIfInBounds_toArray, List.set_cons_zero, List.set_cons_succ]
            refine take (i := 9) (d := some 34) (v := undef) rfl (by kernel_rfl) (by kernel_rfl) (by kernel_rfl) (by kernel_rfl) (fun _ _ _ h => h) (Or.inr ⟨by rfl, rfl⟩) hHeld ?_
            simp only [Act.put, List.setIfInBounds_toArray, List.set_cons_zero, List.set_cons_succ]
            refine take (i := 10) (d := some 35) (v := undef) rfl (by kernel_rfl) (by kernel_rfl) (by kernel_rfl) (by kernel_rfl) (fun _ _ _ h => h) (Or.inr ⟨by rfl, rfl⟩) hHeld ?_
            simp only [Act.put, List.setIfInBounds_toArray, List.set_cons_zero, List.set_cons_succ]
            refine take (i := 11) (d := some 36) (v := undef) rfl (by kernel_rfl) (by kernel_rfl) (by kernel_rfl) (by kernel_rfl) (fun _ _ _ h => h) (Or.inr ⟨by rfl, rfl⟩) hHeld ?_
            simp only [Act.put, List.setIfInBounds_toArray, List.set_cons_zero, List.set_cons_succ]
            refine take (i := 12) (d := some 37) (v := undef) rfl (by kernel_rfl) (by kernel_rfl) (by kernel_rfl) (by kernel_rfl) (fun _ _ _ h => h) (Or.inr ⟨by rfl, rfl⟩) hHeld ?_
            simp only [Act.put, List.setIfInBounds_toArray, List.set_cons_zero, List.set_cons_succ]
            refine take (i := 13) (d := some 38) (v := undef) rfl (by kernel_rfl) (by kernel_rfl) (by kernel_rfl) (by kernel_rfl) (fun _ _ _ h => h) (Or.inr ⟨by rfl, rfl⟩) hHeld ?_
            simp only [Act.put, List.setIfInBounds_toArray, List.set_cons_zero, List.set_cons_succ]
            refine take (i := 14) (d := some 39) (v := undef) rfl (by kernel_rfl) (by kernel_rfl) (by kernel_rfl) (by kernel_rfl) (fun _ _ _ h => h) (Or.inr ⟨by rfl, rfl⟩) hHeld ?_
            simp only [Act.put, List.setIfInBounds_toArray, List.set_cons_zero, List.set_cons_succ]
            refine take (i := 16) (d := some 41) (v := undef) rfl (by kernel_rfl) (by kernel_rfl) (by kernel_rfl) (by kernel_rfl) (fun _ _ _ h => h) (Or.inr ⟨by rfl, rfl⟩) hHeld ?_
            simp only [Act.put, List.setIfInBounds_toArray, List.set_cons_zero, List.set_cons_succ]
            refine take (i := 17) (d := some 42) (v := undef) rfl (by kernel_rfl) (by kernel_rfl) (by kernel_rfl) (by kernel_rfl) (fun _ _ _ h => h) (Or.inr ⟨by rfl, rfl⟩) hHeld ?_
            simp only [Act.put, List.setIfInBounds_toArray, List.set_cons_zero, List.set_cons_succ]
            refine take (i := 18) (d := some 43) (v := undef) rfl (by kernel_rfl) (by kernel_rfl) (by kernel_rfl) (by kernel_rfl) (fun _ _ _ h => h) (Or.inr ⟨by rfl, rfl⟩) hHeld ?_
            simp only [Act.put, List.setIfInBounds_toArray, List.set_cons_zero, List.set_cons_succ]
            refine take (i := 19) (d := some 44) (v := undef) rfl (by kernel_rfl) (by kernel_rfl) (by kernel_rfl) (by kernel_rfl) (fun _ _ _ h => h) (Or.inr ⟨by rfl, rfl⟩) hHeld ?_
            simp only [Act.put, List.setIfInBounds_toArray, List.set_cons_zero, List.set_cons_succ]
            refine take (i := 20) (d := some 45) (v := undef) rfl (by kernel_rfl) (by kernel_rfl) (by kernel_rfl) (by kernel_rfl) (fun _ _ _ h => h) (Or.inr ⟨by rfl, rfl⟩) hHeld ?_
            simp only [Act.put, List.setIfInBounds_toArray, List.set_cons_zero, List.set_cons_succ]
            refine take (i := 21) (d := some 46) (v := undef) rfl (by kernel_rfl) (by kernel_rfl) (by kernel_rfl) (by kernel_rfl) (fun _ _ _ h => h) (Or.inr ⟨by rfl, rfl⟩) hHeld ?_
            simp only [Act.put, List.setIfInBounds_toArray, List.set_cons_zero, List.set_cons_succ]
            refine take (i := 15) (d := some 40) (v := undef) rfl (by kernel_rfl) (by kernel_rfl) (by kernel_rfl) (by kernel_rfl) (fun _ _ _ h => h) (Or.inr ⟨by rfl, rfl⟩) hHeld ?_
            simp only [Act.put, List.setIfInBounds_toArray, List.set_cons_zero, List.set_cons_succ]
            refine take (i := 22) (d := some 47) (v := undef) rfl (by kernel_rfl) (by kernel_rfl) (by kernel_rfl) (by kernel_rfl) (fun _ _ _ h => h) (Or.inr ⟨by rfl, rfl⟩) hHeld ?_
            simp only [Act.put, List.setIfInBounds_toArray, List.set_cons_zero, List.set_cons_succ]
            refine take (i := 23) (d := some 48) (v := undef) rfl (by kernel_rfl) (by kernel_rfl) (by kernel_rfl) (by kernel_rfl) (fun _ _ _ h => h) (Or.inr ⟨by rfl, rfl⟩) hHeld ?_
            simp only [Act.put, List.setIfInBounds_toArray, List.set_cons_zero, List.set_cons_succ]
            refine take (i := 24) (d := some 49) (v := .bool false) rfl (by kernel_rfl) (by kernel_rfl) (by kernel_rfl) (by kernel_rfl) (fun _ _ _ h => h) (Or.inl ⟨by rfl, by intro w hSw; go_simp⟩) hHeld ?_
            simp only [Act.put, List.setIfInBounds_toArray, List.set_cons_zero, List.set_cons_succ]
            refine wpAnyH_done (by kernel_rfl) ?_ _
            go_wp2
            go_roundw
            case rel => exact ⟨j + 1, by omega, by go_num, hbel.drew, Q0.out, Q1.out, HY.out (fun h => by have := U.out; omega)⟩
            case measure => simp [intOf]; omega
          · have U : Hid (x1 = x3) := t
            have f1 : (x2 == 1) = true := by rw [u]; rfl
            have f3 : (x1 != x3) = false := by rw [t]; simp
            clear u t y1 y2 y3
            refine wp_region_held_drew (S := (fun w' => w'.cell? ⟨w.heap.size, 0, none⟩ = some (.slice (some ⟨b1, o1, none⟩) 8 c1) ∧ w'.cell? ⟨w.heap.size, 1, none⟩ = some (.slice (some ⟨b2, o2, none⟩) 8 c2) ∧ w'.cell? ⟨w.heap.size + 1, 0, none⟩ = some (.slice (some ⟨b3, o3, none⟩) 8 c3) ∧ w'.cell? ⟨b1, o1 + k, none⟩ = some (.int .i64 m1) ∧ w'.cell? ⟨b2, o2 + k, none⟩ = some (.int .i64 m2) ∧ w'.cell? ⟨b3, o3 + k, none⟩ = some (.int .i64 m3))) (by kernel_rfl) ⟨p00, p01, p10, g1, g2, g3⟩ (fun hHeld => ?_)
            refine take (i := 0) (d := some 25) (v := .pointer (some ⟨w.heap.size, 1, none⟩)) rfl (by kernel_rfl) (by kernel_rfl) (by kernel_rfl) (by kernel_rfl) (fun _ _ _ h => h) (Or.inl ⟨by rfl, by intro w hSw; go_simp⟩) hHeld ?_
            simp only [Act.put, List.setIfInBounds_toArray, List.set_cons_zero, List.set_cons_succ]
            refine take (i := 1) (d := some 26) (v := .slice (some ⟨b2, o2, none⟩) 8 c2) rfl (by kernel_rfl) (by kernel_rfl) (by kernel_rfl) (by kernel_rfl) (fun _ _ _ h => h) (Or.inl ⟨by rfl, by intro w hSw; obtain ⟨p00, p01, p10, g1, g2, g3⟩ := hSw; go_simp⟩) hHeld ?_
            simp only [Act.put, List.setIfInBounds_toArray, List.set_cons_zero, List.set_cons_succ]
            refine take (i := 2) (d := some 27) (v := .int .i64 k) rfl (by kernel_rfl) (by kernel_rfl) (by kernel_rfl) (by kernel_rfl) (fun _ _ _ h => h) (Or.inl ⟨by rfl, by intro w hSw; go_simp⟩) hHeld ?_
            simp only [Act.put, List.setIfInBounds_toArray, List.set_cons_zero, List.set_cons_succ]
            refine take (i := 3) (d := some 28) (v := .pointer (some ⟨b2, o2 + k, none⟩)) rfl (by kernel_rfl) (by kernel_rfl) (by kernel_rfl) (by kernel_rfl) (fun _ _ _ h => h) (Or.inl ⟨by rfl, by intro w hSw; go_simp⟩) hHeld ?_
            simp only [Act.put, List.setIfInBounds_toArray, List.set_cons_zero, List.set_cons_succ]
            refine take (i := 4) (d := some 29) (v := .int .i64 m2) rfl (by kernel_rfl) (by kernel_rfl) (by kernel_rfl) (by kernel_rfl) (fun _ _ _ h => h) (Or.inl ⟨by rfl, by intro w hSw; obtain ⟨p00, p01, p10, g1, g2, g3⟩ := hSw; go_simp⟩) hHeld ?_
            simp only [Act.put, List.setIfInBounds_toArray, List.set_cons_zero, List.set_cons_succ]
            refine take (i := 5) (d := some 30) (v := .int .i64 j) rfl (by kernel_rfl) (by kernel_rfl) (by kernel_rfl) (by kernel_rfl) (fun _ _ _ h => h) (Or.inl ⟨by rfl, by intro w hSw; go_simp⟩) hHeld ?_
            simp only [Act.put, List.setIfInBounds_toArray, List.set_cons_zero, List.set_cons_succ]
            refine wpAnyH_ready (rs := [6]) (by kernel_rfl) (by simp) (Mi.readyCall2 rfl (by kernel_rfl) 67 (.tmp 29) (.tmp 30) 3 3 (by kernel_rfl) 31 (by kernel_rfl) _ _ (by kernel_rfl) (by kernel_rfl) (fun _ => rfl) (H2.out _) (fun wx hb => by rw [hb]; exact hHeld) (fun wx hb hHeld => ?_) AllReadyH.nil)
            subst hb
            simp only [Act.put, List.setIfInBounds_toArray, List.set_cons_zero, List.set_cons_succ]
            refine take (i := 7) (d := some 32) (v := .bool true) rfl (by kernel_rfl) (by kernel_rfl) (by kernel_rfl) (by kernel_rfl) (fun _ _ _ h => h) (Or.inl ⟨by rfl, by intro w hSw; go_simp⟩) hHeld ?_
            simp only [Act.put, List.setIfInBounds_toArray, List.set_cons_zero, List.set_cons_succ]
            refine take (i := 8) (d := some 33) (v := .bool true) rfl (by kernel_rfl) (by kernel_rfl) (by kernel_rfl) (by kernel_rfl) (fun _ _ _ h => h) (Or.inl ⟨by rfl, by intro w hSw; go_simp⟩) hHeld ?_
            simp only [Act.put, List.setIfInBounds_toArray, List.set_cons_zero, List.set_cons_succ]
            refine take (i := 9) (d := some 34) (v := .pointer (some ⟨w.heap.size, 0, none⟩)) rfl (by kernel_rfl) (by kernel_rfl) (by kernel_rfl) (by kernel_rfl) (fun _ _ _ h => h) (Or.inl ⟨by rfl, by intro w hSw; go_simp⟩) hHeld ?_
            simp only [Act.put, List.setIfInBounds_toArray, List.set_cons_zero, List.set_cons_succ]
            refine take (i := 10) (d := some 35) (v := .slice (some ⟨b1, o1, none⟩) 8 c1) rfl (by kernel_rfl) (by kernel_rfl) (by kernel_rfl) (by kernel_rfl) (fun _ _ _ h => h) (Or.inl ⟨by rfl, by intro w hSw; obtain ⟨p00, p01, p10, g1, g2, g3⟩ := hSw; go_simp⟩) hHeld ?_
            simp only [Act.put, List.setIfInBounds_toArray, List.set_cons_zero, List.set_cons_succ]
            refine take (i := 11) (d := some 36) (v := .int .i64 k) rfl (by kernel_rfl) (by kernel_rfl) (by kernel_rfl) (by kernel_rfl) (fun _ _ _ h => h) (Or.inl ⟨by rfl, by intro w hSw; go_simp⟩) hHeld ?_
            simp only [Act.put, List.setIfInBounds_toArray, List.set_cons_zero, List.set_cons_succ]
            refine take (i := 12) (d := some 37) (v := .pointer (some ⟨b1, o1 + k, none⟩)) rfl (by kernel_rfl) (by kernel_rfl) (by kernel_rfl) (by kernel_rfl) (fun _ _ _ h => h) (Or.inl ⟨by rfl, by intro w hSw; go_simp⟩) hHeld ?_
            simp only [Act.put, List.setIfInBounds_toArray, List.set_cons_zero, List.set_cons_succ]
            refine take (i := 13) (d := some 38) (v := .int .i64 m1) rfl (by kernel_rfl) (by kernel_rfl) (by kernel_rfl) (by kernel_rfl) (fun _ _ _ h => h) (Or.inl ⟨by rfl, by intro w hSw; obtain ⟨p00, p01, p10, g1, g2, g3⟩ := hSw; go_simp⟩) hHeld ?_
            simp only [Act.put, List.setIfInBounds_toArray, List.set_cons_zero, List.set_cons_succ]
            refine take (i := 14) (d := some 39) (v := .int .i64 j) rfl (by kernel_rfl) (by kernel_rfl) (by kernel_rfl) (by kernel_rfl) (fun _ _ _ h => h) (Or.inl ⟨by rfl, by intro w hSw; go_simp⟩) hHeld ?_
            simp only [Act.put, List.setIfInBounds_toArray, List.set_cons_zero, List.set_cons_succ]
            refine take (i := 16) (d := some 41) (v := .pointer (some ⟨w.heap.size + 1, 0, none⟩)) rfl (by kernel_rfl) (by kernel_rfl) (by kernel_rfl) (by kernel_rfl) (fun _ _ _ h => h) (Or.inl ⟨by rfl, by intro w hSw; go_simp⟩) hHeld ?_
            simp only [Act.put, List.setIfInBounds_toArray, List.set_cons_zero, List.set_cons_succ]
            refine take (i := 17) (d := some 42) (v := .slice (some ⟨b3, o3, none⟩) 8 c3) rfl (by kernel_rfl) (by kernel_rfl) (by kernel_rfl) (by kernel_rfl) (fun _ _ _ h => h) (Or.inl ⟨by rfl, by intro w hSw; obtain ⟨p00, p01, p10, g1, g2, g3⟩ := hSw; go_simp⟩) hHeld ?_
            simp only [Act.put, List.setIfInBounds_toArray, List.set_cons_zero, List.set_cons_succ]
            refine take (i := 18) (d := some 43) (v := .int .i64 k) rfl (by kernel_rfl) (by kernel_rfl) (by kernel_rfl) (by kernel_rfl) (fun _ _ _ h => h) (Or.inl ⟨by rfl, by intro w hSw; go_simp⟩) hHeld ?_
            simp only [Act.put, List.setIfInBounds_toArray, List.set_cons_zero, List.set_cons_succ]
            refine take (i := 19) (d := some 44) (v := .pointer (some ⟨b3, o3 + k, none⟩)) rfl (by kernel_rfl) (by kernel_rfl) (by kernel_rfl) (by kernel_rfl) (fun _ _ _ h => h) (Or.inl ⟨by rfl, by intro w hSw; go_simp⟩) hHeld ?_
            simp only [Act.put, List.setIfInBounds_toArray, List.set_cons_zero, List.set_cons_succ]
            refine take (i := 20) (d := some 45) (v := .int .i64 m3) rfl (by kernel_rfl) (by kernel_rfl) (by kernel_rfl) (by kernel_rfl) (fun _ _ _ h => h) (Or.inl ⟨by rfl, by intro w hSw; obtain ⟨p00, p01, p10, g1, g2, g3⟩ := hSw; go_simp⟩) hHeld ?_
            simp only [Act.put, List.setIfInBounds_toArray, List.set_cons_zero, List.set_cons_succ]
            refine take (i := 21) (d := some 46) (v := .int .i64 j) rfl (by kernel_rfl) (by kernel_rfl) (by kernel_rfl) (by kernel_rfl) (fun _ _ _ h => h) (Or.inl ⟨by rfl, by intro w hSw; go_simp⟩) hHeld ?_
            simp only [Act.put, List.setIfInBounds_toArray, List.set_cons_zero, List.set_cons_succ]
            refine wpAnyH_ready (rs := [15]) (by kernel_rfl) (by simp) (Mi.readyCall2 rfl (by kernel_rfl) 67 (.tmp 38) (.tmp 39) 3 3 (by kernel_rfl) 40 (by kernel_rfl) _ _ (by kernel_rfl) (by kernel_rfl) (fun _ => rfl) (H1.out _) (fun wx hb => by rw [hb]; exact hHeld) (fun wx hb hHeld => ?_) AllReadyH.nil)
            subst hb
            simp only [Act.put, List.setIfInBounds_toArray, List.set_cons_zero, List.set_cons_succ]
            refine wpAnyH_ready (rs := [22]) (by kernel_rfl) (by simp) (Mi.readyCall2 rfl (by kernel_rfl) 67 (.tmp 45) (.tmp 46) 3 3 (by kernel_rfl) 47 (by kernel_rfl) _ _ (by kernel_rfl) (by kernel_rfl) (fun _ => rfl) (H3.out _) (fun wx hb => by rw [hb]; exact hHeld) (fun wx hb hHeld => ?_) AllReadyH.nil)
            subst hb
            simp only [Act.put, List.setIfInBounds_toArray, List.set_cons_zero, List.set_cons_succ]
            refine take (i := 23) (d := some 48) (v := .bool false) rfl (by kernel_rfl) (by kernel_rfl) (by kernel_rfl) (by kernel_rfl) (fun _ _ _ h => h) (Or.inl ⟨by rfl, by intro w hSw; go_simp⟩) hHeld ?_
            simp only [Act.put, List.setIfInBounds_toArray, List.set_cons_zero, List.set_cons_succ]
            refine take (i := 24) (d := some 49) (v := .bool false) rfl (by kernel_rfl) (by kernel_rfl) (by kernel_rfl) (by kernel_rfl) (fun _ _ _ h => h) (Or.inl ⟨by rfl, by intro w hSw; go_simp⟩) hHeld ?_
            simp only [Act.put, List.setIfInBounds_toArray, List.set_cons_zero, List.set_cons_succ]
            refine wpAnyH_done (by kernel_rfl) ?_ _
            go_wp2
            go_roundw
            case rel => exact ⟨j + 1, by omega, by go_num, hbel.drew, Q0.out, Q1.out, HY.out (fun _ => U.out)⟩
            case measure => simp [intOf]; omega
          · have U : Hid (x2 = 1 ∧ ¬ x1 = x3) := ⟨u, t⟩
            have f1 : (x2 == 1) = true := by rw [u]; rfl
            have f3 : (x1 != x3) = true := by simpa using t
            clear u t y1 y2 y3
            refine wp_region_held_drew (S := (fun w' => w'.cell? ⟨w.heap.size, 0, none⟩ = some (.slice (some ⟨b1, o1, none⟩) 8 c1) ∧ w'.cell? ⟨w.heap.size, 1, none⟩ = some (.slice (some ⟨b2, o2, none⟩) 8 c2) ∧ w'.cell? ⟨w.heap.size + 1, 0, none⟩ = some (.slice (some ⟨b3, o3, none⟩) 8 c3) ∧ w'.cell? ⟨b1, o1 + k, none⟩ = some (.int .i64 m1) ∧ w'.cell? ⟨b2, o2 + k, none⟩ = some (.int .i64 m2) ∧ w'.cell? ⟨b3, o3 + k, none⟩ = some (.int .i64 m3))) (by kernel_rfl) ⟨p00, p01, p10, g1, g2, g3⟩ (fun hHeld => ?_)
            refine take (i := 0) (d := some 25) (v := .pointer (some ⟨w.heap.size, 1, none⟩)) rfl (by kernel_rfl) (by kernel_rfl) (by kernel_rfl) (by kernel_rfl) (fun _ _ _ h => h) (Or.inl ⟨by rfl, by intro w hSw; go_simp⟩) hHeld ?_
            simp only [Act.put, List.setIfInBounds_toArray, List.set_cons_zero, List.set_cons_succ]
            refine take (i := 1) (d := some 26) (v := .slice (some ⟨b2, o2, none⟩) 8 c2) rfl (by kernel_rfl) (by kernel_rfl) (by kernel_rfl) (by kernel_rfl) (fun _ _ _ h => h) (Or.inl ⟨by rfl, by intro w hSw; obtain ⟨p00, p01, p10, g1, g2, g3⟩ := hSw; go_simp⟩) hHeld ?_
            simp only [Act.put, List.setIfInBounds_toArray, List.set_cons_zero, List.set_cons_succ]
            refine take (i := 2) (d := some 27) (v := .int .i64 k) rfl (by kernel_rfl) (by kernel_rfl) (by kernel_rfl) (by kernel_rfl) (fun _ _ _ h => h) (Or.inl ⟨by rfl, by intro w hSw; go_simp⟩) hHeld ?_
            simp only [Act.put, List.setIfInBounds_toArray, List.set_cons_zero, List.set_cons_succ]
            refine take (i := 3) (d := some 28) (v := .pointer (some ⟨b2, o2 + k, none⟩)) rfl (by kernel_rfl) (by kernel_rfl) (by kernel_rfl) (by kernel_rfl) (fun _ _ _ h => h) (Or.inl ⟨by rfl, by intro w hSw; go_simp⟩) hHeld ?_
            simp only [Act.put, List.setIfInBounds_toArray, List.set_cons_zero, List.set_cons_succ]
            refine take (i := 4) (d := some 29) (v := .int .i64 m2) rfl (by kernel_rfl) (by kernel_rfl) (by kernel_rfl) (by kernel_rfl) (fun _ _ _ h => h) (Or.inl ⟨by rfl, by intro w hSw; obtain ⟨p00, p01, p10, g1, g2, g3⟩ := hSw; go_simp⟩) hHeld ?_
            simp only [Act.put, List.setIfInBounds_toArray, List.set_cons_zero, List.set_cons_succ]
            refine take (i := 5) (d := some 30) (v := .int .i64 j) rfl (by kernel_rfl) (by kernel_rfl) (by kernel_rfl) (by kernel_rfl) (fun _ _ _ h => h) (Or.inl ⟨by rfl, by intro w hSw; go_simp⟩) hHeld ?_
            simp only [Act.put, List.setIfInBounds_toArray, List.set_cons_zero, List.set_cons_succ]
            refine wpAnyH_ready (rs := [6]) (by kernel_rfl) (by simp) (Mi.readyCall2 rfl (by kernel_rfl) 67 (.tmp 29) (.tmp 30) 3 3 (by kernel_rfl) 31 (by kernel_rfl) _ _ (by kernel_rfl) (by kernel_rfl) (fun _ => rfl) (H2.out _) (fun wx hb => by rw [hb]; exact hHeld) (fun wx hb hHeld => ?_) AllReadyH.nil)
            subst hb
            simp only [Act.put, List.setIfInBounds_toArray, List.set_cons_zero, List.set_cons_succ]
            refine take (i := 7) (d := some 32) (v := .bool true) rfl (by kernel_rfl) (by kernel_rfl) (by kernel_rfl) (by kernel_rfl) (fun _ _ _ h => h) (Or.inl ⟨by rfl, by intro w hSw; go_simp⟩) hHeld ?_
            simp only [Act.put, List.setIfInBounds_toArray, List.set_cons_zero, List.set_cons_succ]
            refine take (i := 8) (d := some 33) (v := .bool true) rfl (by kernel_rfl) (by kernel_rfl) (by kernel_rfl) (by kernel_rfl) (fun _ _ _ h => h) (Or.inl ⟨by rfl, by intro w hSw; go_simp⟩) hHeld ?_
            simp only [Act.put, List.setIfInBounds_toArray, List.set_cons_zero, List.set_cons_succ]
            refine take (i := 9) (d := some 34) (v := .pointer (some ⟨w.heap.size, 0, none⟩)) rfl (by kernel_rfl) (by kernel_rfl) (by kernel_rfl) (by kernel_rfl) (fun _ _ _ h => h) (Or.inl ⟨by rfl, by intro w hSw; go_simp⟩) hHeld ?_
            simp only [Act.put, List.setIfInBounds_toArray, List.set_cons_zero, List.set_cons_succ]
            refine take (i := 10) (d := some 35) (v := .slice (some ⟨b1, o1, none⟩) 8 c1) rfl (by kernel_rfl) (by kernel_rfl) (by kernel_rfl) (by kernel_rfl) (fun _ _ _ h => h) (Or.inl ⟨by rfl, by intro w hSw; obtain ⟨p00, p01, p10, g1, g2, g3⟩ := hSw; go_simp⟩) hHeld ?_
            simp only [Act.put, List.setIfInBounds_toArray, List.set_cons_zero, List.set_cons_succ]
            refine take (i := 11) (d := some 36) (v := .int .i64 k) rfl (by kernel_rfl) (by kernel_rfl) (by kernel_rfl) (by kernel_rfl) (fun _ _ _ h => h) (Or.inl ⟨by rfl, by intro w hSw; go_simp⟩) hHeld ?_
            simp only [Act.put, List.setIfInBounds_toArray, List.set_cons_zero, List.set_cons_succ]
            refine take (i := 12) (d := some 37) (v := .pointer (some ⟨b1, o1 + k, none⟩)) rfl (by kernel_rfl) (by kernel_rfl) (by kernel_rfl) (by kernel_rfl) (fun _ _ _ h => h) (Or.inl ⟨by rfl, by intro w hSw; go_simp⟩) hHeld ?_
            simp only [Act.put, List.setIfInBounds_toArray, List.set_cons_zero, List.set_cons_succ]
            refine take (i := 13) (d := some 38) (v := .int .i64 m1) rfl (by kernel_rfl) (by kernel_rfl) (by kernel_rfl) (by kernel_rfl) (fun _ _ _ h => h) (Or.inl ⟨by rfl, by intro w hSw; obtain ⟨p00, p01, p10, g1, g2, g3⟩ := hSw; go_simp⟩) hHeld ?_
            simp only [Act.put, List.setIfInBounds_toArray, List.set_cons_zero, List.set_cons_succ]
            refine take (i := 14) (d := some 39) (v := .int .i64 j) rfl (by kernel_rfl) (by kernel_rfl) (by kernel_rfl) (by kernel_rfl) (fun _ _ _ h => h) (Or.inl ⟨by rfl, by intro w hSw; go_simp⟩) hHeld ?_
            simp only [Act.put, List.setIfInBounds_toArray, List.set_cons_zero, List.set_cons_succ]
            refine take (i := 16) (d := some 41) (v := .pointer (some ⟨w.heap.size + 1, 0, none⟩)) rfl (by kernel_rfl) (by kernel_rfl) (by kernel_rfl) (by kernel_rfl) (fun _ _ _ h => h) (Or.inl ⟨by rfl, by intro w hSw; go_simp⟩) hHeld ?_
            simp only [Act.put, List.setIfInBounds_toArray, List.set_cons_zero, List.set_cons_succ]
            refine take (i := 17) (d := some 42) (v := .slice (some ⟨b3, o3, none⟩) 8 c3) rfl (by kernel_rfl) (by kernel_rfl) (by kernel_rfl) (by kernel_rfl) (fun _ _ _ h => h) (Or.inl ⟨by rfl, by intro w hSw; obtain ⟨p00, p01, p10, g1, g2, g3⟩ := hSw; go_simp⟩) hHeld ?_
            simp only [Act.put, List.setIfInBounds_toArray, List.set_cons_zero, List.set_cons_succ]
            refine take (i := 18) (d := some 43) (v := .int .i64 k) rfl (by kernel_rfl) (by kernel_rfl) (by kernel_rfl) (by kernel_rfl) (fun _ _ _ h => h) (Or.inl ⟨by rfl, by intro w hSw; go_simp⟩) hHeld ?_
            simp only [Act.put, List.setIfInBounds_toArray, List.set_cons_zero, List.set_cons_succ]
            refine take (i := 19) (d := some 44) (v := .pointer (some ⟨b3, o3 + k, none⟩)) rfl (by kernel_rfl) (by kernel_rfl) (by kernel_rfl) (by kernel_rfl) (fun _ _ _ h => h) (Or.inl ⟨by rfl, by intro w hSw; go_simp⟩) hHeld ?_
            simp only [Act.put, List.setIfInBounds_toArray, List.set_cons_zero, List.set_cons_succ]
            refine take (i := 20) (d := some 45) (v := .int .i64 m3) rfl (by kernel_rfl) (by kernel_rfl) (by kernel_rfl) (by kernel_rfl) (fun _ _ _ h => h) (Or.inl ⟨by rfl, by intro w hSw; obtain ⟨p00, p01, p10, g1, g2, g3⟩ := hSw; go_simp⟩) hHeld ?_
            simp only [Act.put, List.setIfInBounds_toArray, List.set_cons_zero, List.set_cons_succ]
            refine take (i := 21) (d := some 46) (v := .int .i64 j) rfl (by kernel_rfl) (by kernel_rfl) (by kernel_rfl) (by kernel_rfl) (fun _ _ _ h => h) (Or.inl ⟨by rfl, by intro w hSw; go_simp⟩) hHeld ?_
            simp only [Act.put, List.setIfInBounds_toArray, List.set_cons_zero, List.set_cons_succ]
            refine wpAnyH_ready (rs := [15]) (by kernel_rfl) (by simp) (Mi.readyCall2 rfl (by kernel_rfl) 67 (.tmp 38) (.tmp 39) 3 3 (by kernel_rfl) 40 (by kernel_rfl) _ _ (by kernel_rfl) (by kernel_rfl) (fun _ => rfl) (H1.out _) (fun wx hb => by rw [hb]; exact hHeld) (fun wx hb hHeld => ?_) AllReadyH.nil)
            subst hb
            simp only [Act.put, List.setIfInBounds_toArray, List.set_cons_zero, List.set_cons_succ]
            refine wpAnyH_ready (rs := [22]) (by kernel_rfl) (by simp) (Mi.readyCall2 rfl (by kernel_rfl) 67 (.tmp 45) (.tmp 46) 3 3 (by kernel_rfl) 47 (by kernel_rfl) _ _ (by kernel_rfl) (by kernel_rfl) (fun _ => rfl) (H3.out _) (fun wx hb => by rw [hb]; exact hHeld) (fun wx hb hHeld => ?_) AllReadyH.nil)
            subst hb
            simp only [Act.put, List.setIfInBounds_toArray, List.set_cons_zero, List.set_cons_succ]
            refine take (i := 23) (d := some 48) (v := .bool true) rfl (by kernel_rfl) (by kernel_rfl) (by kernel_rfl) (by kernel_rfl) (fun _ _ _ h => h) (Or.inl ⟨by rfl, by intro w hSw; go_simp⟩) hHeld ?_
            simp only [Act.put, List.setIfInBounds_toArray, List.set_cons_zero, List.set_cons_succ]
            refine take (i := 24) (d := some 49) (v := .bool true) rfl (by kernel_rfl) (by kernel_rfl) (by kernel_rfl) (by kernel_rfl) (fun _ _ _ h => h) (Or.inl ⟨by rfl, by intro w hSw; go_simp⟩) hHeld ?_
            simp only [Act.put, List.setIfInBounds_toArray, List.set_cons_zero, List.set_cons_succ]
            refine wpAnyH_done (by kernel_rfl) ?_ _
            go_wp2
            go_ret
            exact ⟨Num.ret_bool (HN.out (fun h => U.out.2 (h U.out.1))).symm, hbel.drew⟩
        · have he : j = Bw.fbN k := by omega
          have hjz : ¬ ((j : Int) < (Bw.fbN k : Int)) := by omega
          have HY : Hid (∀ f, f < k + 1 → ∀ i, i < Bw.fbN f → (Bw.bitI (M.getD f 0) i = 1 → Bw.bitI (V.getD f 0) i = Bw.bitI (H.getD f 0) i)) := (fun f hf => by by_cases e : f = k; (· subst e; intro i hi; exact HI.out i (by omega)); (· exact HG.out f (by omega)) : ∀ f, f < k + 1 → ∀ i, i < Bw.fbN f → (Bw.bitI (M.getD f 0) i = 1 → Bw.bitI (V.getD f 0) i = Bw.bitI (H.getD f 0) i))
          clear HI HG he D1 R1 D2 R2 D3 R3
          go_wp2_with (go_at_call 66; refine (HF.out _).mono ?_; rintro e ws ⟨rfl, hb⟩; replace q0 := (hb.block _ (Array.getElem?_eq_some_iff.1 q0).1).trans q0; replace q1 := (hb.block _ (Array.getElem?_eq_some_iff.1 q1).1).trans q1; replace hbel := Rw.next hbel hb; clear hb)
          go_roundw
          case rel => exact ⟨k + 1, by omega, by go_num, hbel, q0, q1, HY.out⟩
          case measure => simp [intOf]; omega
    · have he : k = 8 := by omega
      subst he
      clear D1 R1 D2 R2 D3 R3
      go_wp2
      go_ret
      exact ⟨Num.ret_bool (HR.out.2 HG.out).symm, hbo⟩

end Go.Proofs.Ytcbgnfjnjfaacaa.Mh
namespace Go.Proofs.Ytcbgnfjnjfaacaa.Ld
set_option maxRecDepth 8000
set_option linter.unusedVariables false
open Go Go.RowKit
open Num Pl Hr Hh Hf Hg Pa Pm Po Pe Rg Lb Lc Bw Mo Mp Mq
theorem hitsS_any (V M H : List Int) (wV : Wide V) (wH : Wide H) : CMH 102 V M H (Bo (hitB V M H)) := by
  intro a a' b o c b' o' c' p q r s w h1 h2 h3
  unfold hitB
  rw [ofB]
  cases h : matchB V M with
  | false => exact hit_wrong1 _ _ _ _ _ _ _ _ _ w (okT c c' h1 h2 wV h)
  | true =>
    cases hh : headB H with
    | false => exact hit_wrong2 _ _ _ _ _ _ _ _ _ w (okT c c' h1 h2 wV h) (headT s h3 hh)
    | true =>
      have ho := ofB H
      rw [hh] at ho
      obtain ⟨l1, l2⟩ := lens h
      have l3 := Mq.head_len hh
      obtain ⟨d1, d2⟩ := bounds h
      have d3 : ∀ k, k < 8 → 0 ≤ H.getD k 0 ∧ H.getD k 0 < 281474976710656 := fun k hk => fits_lt (head_at hh hk)
      have t0 := okT c c' h1 h2 wV h
      have t1 := headT s h3 hh
      obtain rfl := rd_some h1 l1
      obtain rfl := rd_some h2 l2
      obtain rfl := rd_some h3 l3
      have g1 := h1.cell; have g2 := h2.cell; have g3 := h3.cell
      rw [l1] at t0 g1; rw [l2] at t0 g2; rw [l3] at t1 g3
      rw [l1, l2, l3, pv_yes h, pm_yes h, pv_yes ho, pm_yes ho]
      have e1 : ofV H = lst (nth H) := by unfold ofV; rw [hh]; rfl
      have e2 : ofM H = lst fullI := by unfold ofM; rw [hh]; rfl
      rw [e1, e2]
      exact Mh.hitsS b o c b' o' c' q r s V M H w g1 g2 g3 d1 d2 d3 t0 t1 _ (hits_iff h hh)
theorem hitsR (V M H : List Int) (wV : Wide V) (_wM : Wide M) (wH : Wide H) : ∃ R, CMH 17 V M H (Bo R) ∧ CMH 102 V M H (Bo R) :=
  ⟨_, hits_any V M H wV wH, hitsS_any V M H wV wH⟩

end Go.Proofs.Ytcbgnfjnjfaacaa.Ld
