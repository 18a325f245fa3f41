/-
  Contracts laid together (Kd, Ke, Cv, Cw).
-/
import Derived.Test.YtcbgnfjnjfaacaaPtd
namespace Go.Proofs.Ytcbgnfjnjfaacaa.Ka
set_option maxRecDepth 8000
set_option linter.unusedSimpArgs false
set_option linter.unusedVariables false
open Go Go.RowKit Go.Maps
open Num Pl Ea Ra Pq Pa

theorem wrong_any (e : Ent) (w : World) (h : e.Ok w) : Calls Try.prog 136 #[.agg #[.int .i64 e.ep, .int .i64 e.pr, .slice e.aV e.V.length e.cV, .slice e.aM e.M.length e.cM, .slice e.aA e.A.length e.cA, .int .i64 e.h]] w fun x w' => x = .returned (.bool (!enB e.said)) ∧ Below w.heap.size w w' := by
  obtain ⟨W1, hW1⟩ : ∃ W1, W1 = w.alloc (.cells #[.int .i64 e.ep, .int .i64 e.pr, .slice e.aV e.V.length e.cV, .slice e.aM e.M.length e.cM, .slice e.aA e.A.length e.cA, .int .i64 e.h] 41) := ⟨_, rfl⟩
  have B1 : Below w.heap.size w W1 := by subst hW1; exact below_alloc1 _ _
  have hc := okE_impl e W1 (h.below B1)
  simp only [ent_vals] at hc
  go_enter Try.func136, Try.ntmps136
  go_wp2_with (go_at_call 36; rw [← hW1]; clear hW1; refine hc.mono ?_; rintro x wa ⟨rfl, hb⟩)
  go_ret
  exact ⟨rfl, Rw.next B1 hb⟩
theorem right_any (a : Option Addr) (b off cap : Nat) (Q : List Ent) (w : World) (h : Rd w a b off Q) (R : Bool) (hR : R = true ↔ ∀ i, i < Q.length → enB (Q.getD i e0).said = true) :
    Calls Try.prog 92 #[.slice a Q.length cap] w fun e w' => e = .returned (.bool R) ∧ Below w.heap.size w w' := by
  have ht : Tells136 Q w (fun k => !enB (Q.getD k e0).said) := fun k hk W hW => wrong_any _ W ((h.ok k hk).of hW (Nat.le_refl _))
  have hc := contains136 a b off cap Q _ w h ht
  have e : anyB (fun k => !enB (Q.getD k e0).said) Q.length = !R := by
    cases R
    · cases hh : anyB (fun k => !enB (Q.getD k e0).said) Q.length
      · exfalso
        have : ∀ i, i < Q.length → enB (Q.getD i e0).said = true := by
          intro i hi
          cases e1 : enB (Q.getD i e0).said
          · rw [anyB_yes hi (show (!enB (Q.getD i e0).said) = true by rw [e1]; rfl)] at hh; cases hh
          · rfl
        exact absurd (hR.2 this) (by decide)
      · rfl
    · exact anyB_no (fun k hk => show (!enB (Q.getD k e0).said) = false by rw [hR.1 rfl k hk]; rfl)
  rw [e] at hc
  clear e ht hR
  go_enter Try.func92, Try.ntmps92
  go_wp2_with (go_at_call 101; refine hc.mono ?_; rintro x wa ⟨rfl, hb⟩)
  go_ret
  exact ⟨ret_bool (by simp), hb⟩

theorem em_bool (P : Prop) : ∃ R : Bool, R = true ↔ P := by
  rcases Classical.em P with h | h
  · exact ⟨true, by simp [h]⟩
  · exact ⟨false, by simp [h]⟩

set_option maxHeartbeats 4000000 in
theorem tabI (q : Int) (a : Option Addr) (b off cap : Nat) (Q : List Ent) (w : World) (h : Rd w a b off Q) (R : Bool) (hR : R = true ↔ TabP q (Q.map Ent.said)) :
    Calls Try.prog 26 #[.agg #[.int .i64 q, .slice a Q.length cap]] w fun e w' => e = .returned (.bool R) ∧ Below w.heap.size w w' := by
  obtain ⟨W1, hW1⟩ : ∃ W1, W1 = w.alloc (.cells #[.int .i64 q, .slice a Q.length cap] 38) := ⟨_, rfl⟩
  have B1 : Below w.heap.size w W1 := by subst hW1; exact below_alloc1 _ _
  have k0 : W1.heap[w.heap.size]? = some (.cells #[.int .i64 q, .slice a Q.length cap] 38 (0, 0)) := by subst hW1; exact at_new rfl
  have r1 := h.below B1
  have hs := h.size
  clear h
  have HR : Hid (R = true ↔ TabP q (Q.map Ent.said)) := hR
  clear hR
  have HB : Hid (Below w.heap.size w W1) := B1
  obtain ⟨b3, hb3⟩ := em_bool (∀ i, i < Q.length → enB (Q.getD i e0).said = true)
  have h3 := fun W hW => right_any a b off cap Q W hW b3 hb3
  have h4 := fun W hW => sorted_any a b off cap Q W hW
  have H3 : Hid (b3 = true ↔ ∀ i, i < Q.length → enB (Q.getD i e0).said = true) := hb3
  obtain ⟨b4, hb4⟩ : ∃ b4, b4 = sortB Q (Q.length - 1) := ⟨_, rfl⟩
  rw [← hb4] at h4
  have H4 : Hid (b4 = true ↔ ∀ i, i + 1 < Q.length → ¬ rk (Q.getD (i + 1) e0) (Q.getD i e0) < 0) := by
    rw [hb4, sortB_iff]
    exact ⟨fun h i hi => h i (by omega), fun h i hi => h i (by omega)⟩
  clear hb3 hb4
  obtain ⟨b5, hb5⟩ := em_bool (Once Q Q.length)
  have h5 := fun W hW hG => none_any a b off cap Q W hW hG b5 hb5
  have H5 : Hid (b5 = true ↔ Once Q Q.length) := hb5
  clear hb5
  have key : R = (upB 400 q && (decide ((Q.length : Int) ≤ q) && (b3 && (b4 && b5)))) := by
    have e : R = true ↔ (upB 400 q && (decide ((Q.length : Int) ≤ q) && (b3 && (b4 && b5)))) = true := by
      rw [HR.out]
      simp only [Bool.and_eq_true, upB, decide_eq_true_eq, H3.out, H4.out, H5.out]
      constructor
      · intro t
        refine ⟨⟨t.q0, t.q1⟩, by simpa using t.len, fun i hi => ?_, fun i hi => ?_, fun i j h1 h2 h3 h4 => ?_⟩
        · have := t.each i (by simpa using hi); rwa [said_getD] at this
        · have := t.sorted i (by simpa using hi); rwa [said_getD, said_getD, ahead_rk] at this
        · have := t.once i j h1 (by simpa using h2)
          rw [said_getD, said_getD] at this
          have e := rk_eq.1 h3
          exact this ⟨e.1, e.2, h4.1, h4.2⟩
      · rintro ⟨⟨t1, t2⟩, t3, t4, t5, t6⟩
        refine ⟨t1, t2, by simpa using t3, fun i hi => ?_, fun i hi => ?_, fun i j h1 h2 => ?_⟩
        · rw [said_getD]; exact t4 i (by simpa using hi)
        · rw [said_getD, said_getD, ahead_rk]; exact t5 i (by simpa using hi)
        · rw [said_getD, said_getD]
          rintro ⟨e1, e2, e3, e4⟩
          exact t6 i j h1 (by simpa using h2) (rk_eq.2 ⟨e1, e2⟩) ⟨e3, e4⟩
    cases R <;> cases hh : (upB 400 q && (decide ((Q.length : Int) ≤ q) && (b3 && (b4 && b5)))) <;> simp_all
  rw [key]
  clear key HR
  obtain ⟨n, hn⟩ : ∃ n, n = Q.length := ⟨_, rfl⟩
  rw [← hn] at hW1 k0 h3 h4 h5 hs ⊢
  have HN : Hid (n = Q.length) := hn
  clear hn
  generalize hb1 : upB 400 q = b1
  have Hb1 : Hid (upB 400 q = b1) := hb1
  clear hb1
  cases b1
  · go_enter Try.func26, Try.ntmps26
    go_wp2_with (first
      | (go_at_call 91; rw [← hW1]; clear hW1; refine (upTo_any _ _ _).mono ?_; rw [Hb1.out]; rintro x wa ⟨rfl, hw⟩; replace hw := hw.symm; subst hw; obtain ⟨p0, p1⟩ := Pm.two k0))
    go_ret
    exact ⟨ret_bool (by simp), B1⟩
  by_cases hle : (n : Int) ≤ q
  rotate_left
  · have hld : decide ((n : Int) ≤ q) = false := decide_eq_false hle
    rw [hld]
    go_enter Try.func26, Try.ntmps26
    go_wp2_with (first
      | (go_at_call 91; rw [← hW1]; clear hW1; refine (upTo_any _ _ _).mono ?_; rw [Hb1.out]; rintro x wa ⟨rfl, hw⟩; replace hw := hw.symm; subst hw; obtain ⟨p0, p1⟩ := Pm.two k0))
    go_ret
    exact ⟨ret_bool (by simp), B1⟩
  have hld : decide ((n : Int) ≤ q) = true := decide_eq_true hle
  rw [hld]
  cases b3
  · go_enter Try.func26, Try.ntmps26
    go_wp2_with (first
      | (go_at_call 91; rw [← hW1]; clear hW1; refine (upTo_any _ _ _).mono ?_; rw [Hb1.out]; rintro x wa ⟨rfl, hw⟩; replace hw := hw.symm; subst hw; obtain ⟨p0, p1⟩ := Pm.two k0)
      | (go_at_call 92; refine (h3 _ r1).mono ?_; rintro x wa ⟨rfl, ba⟩; replace k0 := (ba.block _ (blk_lt k0)).trans k0; clear p0 p1; obtain ⟨p0, p1⟩ := Pm.two k0; replace r1 := r1.below ba; replace B1 := Rw.next B1 ba; clear ba))
    go_ret
    exact ⟨ret_bool (by simp), B1⟩
  cases b4
  · go_enter Try.func26, Try.ntmps26
    go_wp2_with (first
      | (go_at_call 91; rw [← hW1]; clear hW1; refine (upTo_any _ _ _).mono ?_; rw [Hb1.out]; rintro x wa ⟨rfl, hw⟩; replace hw := hw.symm; subst hw; obtain ⟨p0, p1⟩ := Pm.two k0)
      | (go_at_call 92; refine (h3 _ r1).mono ?_; rintro x wa ⟨rfl, ba⟩; replace k0 := (ba.block _ (blk_lt k0)).trans k0; clear p0 p1; obtain ⟨p0, p1⟩ := Pm.two k0; replace r1 := r1.below ba; replace B1 := Rw.next B1 ba; clear ba)
      | (go_at_call 93; refine (h4 _ r1).mono ?_; rintro x wa ⟨rfl, ba⟩; replace k0 := (ba.block _ (blk_lt k0)).trans k0; clear p0 p1; obtain ⟨p0, p1⟩ := Pm.two k0; replace r1 := r1.below ba; replace B1 := Rw.next B1 ba; clear ba))
    go_ret
    exact ⟨ret_bool (by simp), B1⟩
  have hG : Good Q := ⟨H3.out.1 rfl, H4.out.1 rfl⟩
  go_enter Try.func26, Try.ntmps26
  go_wp2_with (first
    | (go_at_call 91; rw [← hW1]; clear hW1; refine (upTo_any _ _ _).mono ?_; rw [Hb1.out]; rintro x wa ⟨rfl, hw⟩; replace hw := hw.symm; subst hw; obtain ⟨p0, p1⟩ := Pm.two k0)
    | (go_at_call 92; refine (h3 _ r1).mono ?_; rintro x wa ⟨rfl, ba⟩; replace k0 := (ba.block _ (blk_lt k0)).trans k0; clear p0 p1; obtain ⟨p0, p1⟩ := Pm.two k0; replace r1 := r1.below ba; replace B1 := Rw.next B1 ba; clear ba)
    | (go_at_call 93; refine (h4 _ r1).mono ?_; rintro x wa ⟨rfl, ba⟩; replace k0 := (ba.block _ (blk_lt k0)).trans k0; clear p0 p1; obtain ⟨p0, p1⟩ := Pm.two k0; replace r1 := r1.below ba; replace B1 := Rw.next B1 ba; clear ba)
    | (go_at_call 95; refine (h5 _ r1 hG).mono ?_; rintro x wa ⟨rfl, ba⟩; replace B1 := Rw.next B1 ba; clear ba))
  go_ret
  exact ⟨ret_bool (by simp), B1⟩

end Go.Proofs.Ytcbgnfjnjfaacaa.Ka
namespace Go.Proofs.Ytcbgnfjnjfaacaa.Ka
set_option maxRecDepth 8000
set_option linter.unusedSimpArgs false
set_option linter.unusedVariables false
open Go Go.RowKit Go.Maps
open Num Pl Ea Ra Pq Pa

theorem aheadS (x y : Ent) (w : World) (R : Bool) (hR : R = true ↔ rk x y < 0) : Calls Try.prog 84 #[.agg #[.int .i64 x.ep, .int .i64 x.pr, .slice x.aV x.V.length x.cV, .slice x.aM x.M.length x.cM, .slice x.aA x.A.length x.cA, .int .i64 x.h], .agg #[.int .i64 y.ep, .int .i64 y.pr, .slice y.aV y.V.length y.cV, .slice y.aM y.M.length y.cM, .slice y.aA y.A.length y.cA, .int .i64 y.h]] w fun e w' => e = .returned (.bool R) ∧ Below w.heap.size w w' := by
  have B1 : Below w.heap.size w ((w.alloc (.cells #[.int .i64 x.ep, .int .i64 x.pr, .slice x.aV x.V.length x.cV, .slice x.aM x.M.length x.cM, .slice x.aA x.A.length x.cA, .int .i64 x.h] 41)).alloc (.cells #[.int .i64 y.ep, .int .i64 y.pr, .slice y.aV y.V.length y.cV, .slice y.aM y.M.length y.cM, .slice y.aA y.A.length y.cA, .int .i64 y.h] 41)) := Rw.next (below_alloc1 _ _) (below_alloc1 _ _)
  have e : R = decide (x.ep < y.ep ∨ x.ep = y.ep ∧ y.pr < x.pr) := by
    rw [rk_lt] at hR
    cases R <;> simp_all
  rw [e]
  by_cases h1 : x.ep < y.ep
  · go_enter Try.func84, Try.ntmps84
    go_wp2
    go_ret
    exact ⟨ret_bool (by simp [h1]), B1⟩
  · by_cases h2 : x.ep = y.ep
    · have h2' : (x.ep == y.ep) = true := by simp [h2]
      have H2 : Hid (x.ep = y.ep) := h2
      clear h2
      go_enter Try.func84, Try.ntmps84
      go_wp2
      go_ret
      exact ⟨ret_bool (by have h2 := H2.out; simp [h2]), B1⟩
    · have h2' : (x.ep == y.ep) = false := by simpa using h2
      go_enter Try.func84, Try.ntmps84
      go_wp2
      go_ret
      exact ⟨ret_bool (by simp [h1, h2]), B1⟩

set_option maxHeartbeats 2000000 in
theorem sameS (x y : Ent) (w : World) (hx : x.Ok w) (hy : y.Ok w) (ex : enB x.said = true) (ey : enB y.said = true) (R : Bool) (hR : R = true ↔ SameKey x.said y.said) : Calls Try.prog 82 #[.agg #[.int .i64 x.ep, .int .i64 x.pr, .slice x.aV x.V.length x.cV, .slice x.aM x.M.length x.cM, .slice x.aA x.A.length x.cA, .int .i64 x.h], .agg #[.int .i64 y.ep, .int .i64 y.pr, .slice y.aV y.V.length y.cV, .slice y.aM y.M.length y.cM, .slice y.aA y.A.length y.cA, .int .i64 y.h]] w fun e w' => e = .returned (.bool R) ∧ Below w.heap.size w w' := by
  obtain ⟨W1, hW1⟩ : ∃ W1, W1 = (w.alloc (.cells #[.int .i64 x.ep, .int .i64 x.pr, .slice x.aV x.V.length x.cV, .slice x.aM x.M.length x.cM, .slice x.aA x.A.length x.cA, .int .i64 x.h] 41)).alloc (.cells #[.int .i64 y.ep, .int .i64 y.pr, .slice y.aV y.V.length y.cV, .slice y.aM y.M.length y.cM, .slice y.aA y.A.length y.cA, .int .i64 y.h] 41) := ⟨_, rfl⟩
  have B1 : Below w.heap.size w W1 := by subst hW1; exact Rw.next (below_alloc1 _ _) (below_alloc1 _ _)
  have ox := hx.below B1
  have oy := hy.below B1
  have hc := Mt.sameS_any _ _ _ _ x.cV _ _ x.cM _ _ _ _ y.cV _ _ y.cM x.V x.M y.V y.M W1 ox.rV ox.rM oy.rV oy.rM ox.wV oy.wV
  have mx := right_match ex
  have my := right_match ey
  simp only [Ent.said] at mx my
  rw [mx, my] at hc
  have e : R = (decide (x.ep = y.ep) && (decide (x.pr = y.pr) && (decide (x.V = y.V) && decide (x.M = y.M)))) := by
    simp only [SameKey, Ent.said] at hR
    cases R <;> simp_all
  rw [e]
  simp only [Bool.true_and] at hc
  generalize (decide (x.V = y.V) && decide (x.M = y.M)) = r at hc ⊢
  clear e hR mx my ox oy
  by_cases h1 : x.ep = y.ep
  · have h1' : (x.ep == y.ep) = true := by simp [h1]
    have H1 : Hid (x.ep = y.ep) := h1
    clear h1
    by_cases h2 : x.pr = y.pr
    · have h2' : (x.pr == y.pr) = true := by simp [h2]
      have H2 : Hid (x.pr = y.pr) := h2
      clear h2
      go_enter Try.func82, Try.ntmps82
      go_wp2_with (go_at_call 115; rw [← hW1]; clear hW1; refine hc.mono ?_; rintro x1 wa ⟨rfl, hb⟩)
      go_ret
      exact ⟨ret_bool (by have h1 := H1.out; have h2 := H2.out; simp [h1, h2]), Rw.next B1 hb⟩
    · have h2' : (x.pr == y.pr) = false := by simpa using h2
      go_enter Try.func82, Try.ntmps82
      go_wp2
      go_ret
      exact ⟨ret_bool (by have h1 := H1.out; simp [h1, h2]), by rw [← hW1]; exact B1⟩
  · have h1' : (x.ep == y.ep) = false := by simpa using h1
    go_enter Try.func82, Try.ntmps82
    go_wp2
    go_ret
    exact ⟨ret_bool (by simp [h1]), by rw [← hW1]; exact B1⟩

/-- What is known of the first i entries. -/
structure Upto (Q : List Ent) (i : Nat) : Prop where
  right : ∀ j, j < i → enB (Q.getD j e0).said = true
  sorted : ∀ j, j + 1 < i → ¬ rk (Q.getD (j + 1) e0) (Q.getD j e0) < 0
  once : Once Q i
theorem tabP_iff {q : Int} {Q : List Ent} : TabP q (Q.map Ent.said) ↔ (0 ≤ q ∧ q ≤ 400 ∧ (Q.length : Int) ≤ q ∧ Upto Q Q.length) := by
  constructor
  · intro t
    refine ⟨t.q0, t.q1, by simpa using t.len, fun i hi => ?_, fun i hi => ?_, fun i j h1 h2 h3 h4 => ?_⟩
    · have := t.each i (by simpa using hi); rwa [said_getD] at this
    · have := t.sorted i (by simpa using hi); rwa [said_getD, said_getD, ahead_rk] at this
    · have := t.once i j h1 (by simpa using h2)
      rw [said_getD, said_getD] at this
      have e := rk_eq.1 h3
      exact this ⟨e.1, e.2, h4.1, h4.2⟩
  · rintro ⟨t1, t2, t3, t4, t5, t6⟩
    refine ⟨t1, t2, by simpa using t3, fun i hi => ?_, fun i hi => ?_, fun i j h1 h2 => ?_⟩
    · rw [said_getD]; exact t4 i (by simpa using hi)
    · rw [said_getD, said_getD, ahead_rk]; exact t5 i (by simpa using hi)
    · rw [said_getD, said_getD]
      rintro ⟨e1, e2, e3, e4⟩
      exact t6 i j h1 (by simpa using h2) (rk_eq.2 ⟨e1, e2⟩) ⟨e3, e4⟩
theorem Upto.le {Q : List Ent} {n : Nat} (h : Upto Q n) {i j : Nat} (hij : i ≤ j) (hj : j < n) : ¬ rk (Q.getD j e0) (Q.getD i e0) < 0 := by
  induction j with
  | zero => have : i = 0 := by omega
            subst this; rw [rk_lt]; omega
  | succ j ih =>
    by_cases e : i = j + 1
    · subst e; rw [rk_lt]; omega
    · have h1 := ih (by omega) (by omega)
      have h2 := h.sorted j hj
      rw [rk_lt] at h1 h2 ⊢
      omega
theorem said_same {a b : Ent} : SameKey a.said b.said ↔ (rk a b = 0 ∧ a.V = b.V ∧ a.M = b.M) := by
  rw [rk_eq]
  simp only [SameKey, Ent.said]
  exact ⟨fun ⟨h1, h2, h3, h4⟩ => ⟨⟨h1, h2⟩, h3, h4⟩, fun ⟨⟨h1, h2⟩, h3, h4⟩ => ⟨h1, h2, h3, h4⟩⟩

set_option maxHeartbeats 16000000 in
theorem tabS (q : Int) (a : Option Addr) (b off cap : Nat) (Q : List Ent) (w : World) (h : Rd w a b off Q) (R : Bool) (hR : R = true ↔ TabP q (Q.map Ent.said)) :
    Calls Try.prog 39 #[.agg #[.int .i64 q, .slice a Q.length cap]] w fun e w' => e = .returned (.bool R) ∧ Below w.heap.size w w' := by
  rw [tabP_iff] at hR
  obtain ⟨W1, hW1⟩ : ∃ W1, W1 = w.alloc (.cells #[.int .i64 q, .slice a Q.length cap] 38) := ⟨_, rfl⟩
  have B1 : Below w.heap.size w W1 := by subst hW1; exact below_alloc1 _ _
  have k0 : W1.heap[w.heap.size]? = some (.cells #[.int .i64 q, .slice a Q.length cap] 38 (0, 0)) := by subst hW1; exact at_new rfl
  have HR : Hid (R = true ↔ (0 ≤ q ∧ q ≤ 400 ∧ (Q.length : Int) ≤ q ∧ Upto Q Q.length)) := hR
  clear hR
  obtain ⟨hh, hc, ho, hs⟩ := h
  obtain ⟨n, hn⟩ : ∃ n, n = Q.length := ⟨_, rfl⟩
  rw [← hn] at hh hc ho hs hW1 k0 ⊢
  have HN : Hid (n = Q.length) := hn
  clear hn
  have no : ∀ P : Prop, ((0 ≤ q ∧ q ≤ 400 ∧ (Q.length : Int) ≤ q ∧ Upto Q Q.length) → P) → ¬ P → false = R := fun P h1 h2 => by
    cases R
    · rfl
    · exact absurd (h1 (HR.out.1 rfl)) h2
  by_cases g0 : q < 0
  · go_enter Try.func39, Try.ntmps39
    go_wp2
    go_ret
    exact ⟨ret_bool (no (0 ≤ q) (fun t => t.1) (by omega)), by rw [← hW1]; exact B1⟩
  by_cases g1 : 400 < q
  · go_enter Try.func39, Try.ntmps39
    go_wp2
    go_ret
    exact ⟨ret_bool (no (q ≤ 400) (fun t => t.2.1) (by omega)), by rw [← hW1]; exact B1⟩
  by_cases g2 : q < (n : Int)
  · go_enter Try.func39, Try.ntmps39
    go_wp2
    go_ret
    exact ⟨ret_bool (no ((Q.length : Int) ≤ q) (fun t => t.2.2.1) (by have := HN.out; omega)), by rw [← hW1]; exact B1⟩
  have HQ : Hid (0 ≤ q ∧ q ≤ 400 ∧ (Q.length : Int) ≤ q) := ⟨by omega, by omega, by have := HN.out; omega⟩
  go_enter Try.func39, Try.ntmps39
  go_wp2
  rw [← hW1]
  clear hW1 g0 g1 g2
  go_loopw [24] (fun u wr => ∃ i : Nat, i ≤ n ∧ u = .int .i64 i ∧ Below w.heap.size w wr ∧ wr.heap[w.heap.size]? = some (.cells #[.int .i64 q, .slice a n cap] 38 (0, 0)) ∧ Upto Q i) (fun u _ => n - (intOf u).toNat)
  case atStart => exact ⟨0, Nat.zero_le _, rfl, B1, k0, fun j hj => by omega, fun j hj => by omega, fun i j h1 h2 => by omega⟩
  case round =>
    clear k0 B1
    obtain ⟨i, hi, rfl, hbel, kT, hup⟩ := hrel
    have HU : Hid (Upto Q i) := hup
    clear hup
    obtain ⟨p0, p1⟩ := Pm.two kT
    have bt := blk_lt kT
    by_cases hlt : i < n
    · obtain rfl := hh (by omega)
      have hnz : (i : Int) < (n : Int) := by omega
      obtain ⟨c0, c1, c2, c3, c4, c5⟩ := ((hc i hlt).of hbel (At6.lt (hc i hlt))).six
      have ok := (ho i hlt).of hbel (Nat.le_refl _)
      have bl : b < wr.heap.size := World.block_lt_of_cell? _ _ c0
      obtain ⟨x, hx⟩ : ∃ x, x = Q.getD i e0 := ⟨_, rfl⟩
      rw [← hx] at c0 c1 c2 c3 c4 c5 ok
      have HX : Hid (Q.getD i e0 = x) := hx.symm
      clear hx
      have hE := okE_spec x wr ok
      simp only [ent_vals] at hE
      cases hen : enB x.said
      · rw [hen] at hE
        have HE : Hid (enB x.said = false) := hen
        clear hen
        go_wp2_with (go_at_call 34; refine hE.mono ?_; rintro x1 w2 ⟨rfl, hb⟩)
        go_ret
        exact ⟨ret_bool (no (enB x.said = true) (fun t => by rw [← HX.out]; exact t.2.2.2.right i (by have := HN.out; omega)) (by rw [HE.out]; decide)), Rw.next hbel hb⟩
      rw [hen] at hE
      have HE : Hid (enB x.said = true) := hen
      clear hen
      go_wp2_with (go_at_call 34; refine hE.mono ?_; rintro x1 w2 ⟨rfl, hb⟩; replace hbel := Rw.next hbel hb; replace kT := (hb.block _ bt).trans kT; clear c0 c1 c2 c3 c4 c5 p0 p1; have bl2 := Nat.lt_of_lt_of_le bl hb.size; have bt2 := Nat.lt_of_lt_of_le bt hb.size; replace ok := ok.below hb; clear hb bl bt hE)
      obtain ⟨p0, p1⟩ := Pm.two kT
      obtain ⟨c0, c1, c2, c3, c4, c5⟩ := ((hc i hlt).of hbel (At6.lt (hc i hlt))).six
      rw [HX.out] at c0 c1 c2 c3 c4 c5
      have bl := bl2
      have bt := bt2
      clear bl2 bt2
      -- the entry before
      have sorted1 : (∀ j, i = j + 1 → ¬ rk x (Q.getD j e0) < 0) → ∀ j, j + 1 < i + 1 → ¬ rk (Q.getD (j + 1) e0) (Q.getD j e0) < 0 := by
        intro h1 j hj
        by_cases e1 : j + 1 = i
        · rw [e1, HX.out]; exact h1 j e1.symm
        · exact HU.out.sorted j (by omega)
      have HS1 : Hid ((∀ j, i = j + 1 → ¬ rk x (Q.getD j e0) < 0) → ∀ j, j + 1 < i + 1 → ¬ rk (Q.getD (j + 1) e0) (Q.getD j e0) < 0) := sorted1
      clear sorted1
      have right1 : ∀ j, j < i + 1 → enB (Q.getD j e0).said = true := by
        intro j hj
        by_cases e1 : j = i
        · rw [e1, HX.out]; exact HE.out
        · exact HU.out.right j (by omega)
      have HRi : Hid (∀ j, j < i + 1 → enB (Q.getD j e0).said = true) := right1
      clear right1
      rcases Nat.eq_zero_or_pos i with h0 | h0
      · -- the first entry
        subst h0
        have hz0 : ¬ (0 : Int) > 0 := by omega
        refine wp_region_held_drew (S := (fun _ => True)) (by kernel_rfl) trivial (fun hHeld => ?_)
        refine take (i := 0) (d := some 34) (v := .int .i64 0) rfl (by kernel_rfl) (by kernel_rfl) (by kernel_rfl) (by kernel_rfl) (fun _ _ _ h => h) (Or.inl ⟨by rfl, by intro w hSw; go_simp⟩) hHeld ?_
        simp only [Act.put, List.setIfInBounds_toArray, List.set_cons_zero, List.set_cons_succ]
        refine take (i := 1) (d := some 35) (v := .bool false) rfl (by kernel_rfl) (by kernel_rfl) (by kernel_rfl) (by kernel_rfl) (fun _ _ _ h => h) (Or.inl ⟨by rfl, by intro w hSw; go_simp⟩) hHeld ?_
        simp only [Act.put, List.setIfInBounds_toArray, List.set_cons_zero, List.set_cons_succ]
        refine take (i := 2) (d := some 36) (v := .bool false) rfl (by kernel_rfl) (by kernel_rfl) (by kernel_rfl) (by kernel_rfl) (fun _ _ _ h => h) (Or.inl ⟨by rfl, by intro w hSw; go_simp⟩) hHeld ?_
        simp only [Act.put, List.setIfInBounds_toArray, List.set_cons_zero, List.set_cons_succ]
        refine take (i := 3) (d := some 37) (v := undef) rfl (by kernel_rfl) (by kernel_rfl) (by kernel_rfl) (by kernel_rfl) (fun _ _ _ h => h) (Or.inr ⟨by rfl, rfl⟩) hHeld ?_
        simp only [Act.put, List.setIfInBounds_toArray, List.set_cons_zero, List.set_cons_succ]
        refine take (i := 4) (d := some 38) (v := undef) rfl (by kernel_rfl) (by kernel_rfl) (by kernel_rfl) (by kernel_rfl) (fun _ _ _ h => h) (Or.inr ⟨by rfl, rfl⟩) hHeld ?_
        simp only [Act.put, List.setIfInBounds_toArray, List.set_cons_zero, List.set_cons_succ]
        refine take (i := 5) (d := some 39) (v := undef) rfl (by kernel_rfl) (by kernel_rfl) (by kernel_rfl) (by kernel_rfl) (fun _ _ _ h => h) (Or.inr ⟨by rfl, rfl⟩) hHeld ?_
        simp only [Act.put, List.setIfInBounds_toArray, List.set_cons_zero, List.set_cons_succ]
        refine take (i := 6) (d := some 40) (v := undef) rfl (by kernel_rfl) (by kernel_rfl) (by kernel_rfl) (by kernel_rfl) (fun _ _ _ h => h) (Or.inr ⟨by rfl, rfl⟩) hHeld ?_
        simp only [Act.put, List.setIfInBounds_toArray, List.set_cons_zero, List.set_cons_succ]
        refine take (i := 7) (d := some 41) (v := undef) rfl (by kernel_rfl) (by kernel_rfl) (by kernel_rfl) (by kernel_rfl) (fun _ _ _ h => h) (Or.inr ⟨by rfl, rfl⟩) hHeld ?_
        simp only [Act.put, List.setIfInBounds_toArray, List.set_cons_zero, List.set_cons_succ]
        refine take (i := 8) (d := some 42) (v := undef) rfl (by kernel_rfl) (by kernel_rfl) (by kernel_rfl) (by kernel_rfl) (fun _ _ _ h => h) (Or.inr ⟨by rfl, rfl⟩) hHeld ?_
        simp only [Act.put, List.setIfInBounds_toArray, List.set_cons_zero, List.set_cons_succ]
        refine take (i := 9) (d := some 43) (v := undef) rfl (by kernel_rfl) (by kernel_rfl) (by kernel_rfl) (by kernel_rfl) (fun _ _ _ h => h) (Or.inr ⟨by rfl, rfl⟩) hHeld ?_
        simp only [Act.put, List.setIfInBounds_toArray, List.set_cons_zero, List.set_cons_succ]
        refine take (i := 10) (d := some 44) (v := undef) rfl (by kernel_rfl) (by kernel_rfl) (by kernel_rfl) (by kernel_rfl) (fun _ _ _ h => h) (Or.inr ⟨by rfl, rfl⟩) hHeld ?_
        simp only [Act.put, List.setIfInBounds_toArray, List.set_cons_zero, List.set_cons_succ]
        refine take (i := 11) (d := some 45) (v := undef) rfl (by kernel_rfl) (by kernel_rfl) (by kernel_rfl) (by kernel_rfl) (fun _ _ _ h => h) (Or.inr ⟨by rfl, rfl⟩) hHeld ?_
        simp only [Act.put, List.setIfInBounds_toArray, List.set_cons_zero, List.set_cons_succ]
        refine take (i := 12) (d := some 46) (v := undef) rfl (by kernel_rfl) (by kernel_rfl) (by kernel_rfl) (by kernel_rfl) (fun _ _ _ h => h) (Or.inr ⟨by rfl, rfl⟩) hHeld ?_
        simp only [Act.put, List.setIfInBounds_toArray, List.set_cons_zero, List.set_cons_succ]
        refine take (i := 13) (d := some 47) (v := undef) rfl (by kernel_rfl) (by kernel_rfl) (by kernel_rfl) (by kernel_rfl) (fun _ _ _ h => h) (Or.inr ⟨by rfl, rfl⟩) hHeld ?_
        simp only [Act.put, List.setIfInBounds_toArray, List.set_cons_zero, List.set_cons_succ]
        refine take (i := 14) (d := some 48) (v := undef) rfl (by kernel_rfl) (by kernel_rfl) (by kernel_rfl) (by kernel_rfl) (fun _ _ _ h => h) (Or.inr ⟨by rfl, rfl⟩) hHeld ?_
        simp only [Act.put, List.setIfInBounds_toArray, List.set_cons_zero, List.set_cons_succ]
        refine take (i := 15) (d := some 49) (v := .bool false) rfl (by kernel_rfl) (by kernel_rfl) (by kernel_rfl) (by kernel_rfl) (fun _ _ _ h => h) (Or.inl ⟨by rfl, by intro w hSw; go_simp⟩) hHeld ?_
        simp only [Act.put, List.setIfInBounds_toArray, List.set_cons_zero, List.set_cons_succ]
        refine wpAnyH_done (by kernel_rfl) ?_ _
        go_wp2
        go_loopw [4] (fun u wr => u = .int .i64 (-1) ∧ Below w.heap.size w wr ∧ wr.heap[w.heap.size]? = some (.cells #[.int .i64 q, .slice (some ⟨b, off, none⟩) n cap] 38 (0, 0))) (fun u _ => 0)
        case atStart => exact ⟨by first | rfl | go_num, by repeat (first | exact hbel | apply Below.drew), kT⟩
        case round =>
          obtain ⟨rfl, hbel2, kT2⟩ := hrel
          go_wp2
          refine wp_region_held_drew (S := (fun _ => True)) (by kernel_rfl) trivial (fun hHeld => ?_)
          refine take (i := 0) (d := some 52) (v := .int .i64 (-1)) rfl (by kernel_rfl) (by kernel_rfl) (by kernel_rfl) (by kernel_rfl) (fun _ _ _ h => h) (Or.inl ⟨by rfl, by intro w hSw; go_simp⟩) hHeld ?_
          simp only [Act.put, List.setIfInBounds_toArray, List.set_cons_zero, List.set_cons_succ]
          refine take (i := 1) (d := some 53) (v := .bool false) rfl (by kernel_rfl) (by kernel_rfl) (by kernel_rfl) (by kernel_rfl) (fun _ _ _ h => h) (Or.inl ⟨by rfl, by intro w hSw; go_simp⟩) hHeld ?_
          simp only [Act.put, List.setIfInBounds_toArray, List.set_cons_zero, List.set_cons_succ]
          refine take (i := 2) (d := some 54) (v := .bool false) rfl (by kernel_rfl) (by kernel_rfl) (by kernel_rfl) (by kernel_rfl) (fun _ _ _ h => h) (Or.inl ⟨by rfl, by intro w hSw; go_simp⟩) hHeld ?_
          simp only [Act.put, List.setIfInBounds_toArray, List.set_cons_zero, List.set_cons_succ]
          refine take (i := 3) (d := some 55) (v := undef) rfl (by kernel_rfl) (by kernel_rfl) (by kernel_rfl) (by kernel_rfl) (fun _ _ _ h => h) (Or.inr ⟨by rfl, rfl⟩) hHeld ?_
          simp only [Act.put, List.setIfInBounds_toArray, List.set_cons_zero, List.set_cons_succ]
          refine take (i := 4) (d := some 56) (v := undef) rfl (by kernel_rfl) (by kernel_rfl) (by kernel_rfl) (by kernel_rfl) (fun _ _ _ h => h) (Or.inr ⟨by rfl, rfl⟩) hHeld ?_
          simp only [Act.put, List.setIfInBounds_toArray, List.set_cons_zero, List.set_cons_succ]
          refine take (i := 5) (d := some 57) (v := undef) rfl (by kernel_rfl) (by kernel_rfl) (by kernel_rfl) (by kernel_rfl) (fun _ _ _ h => h) (Or.inr ⟨by rfl, rfl⟩) hHeld ?_
          simp only [Act.put, List.setIfInBounds_toArray, List.set_cons_zero, List.set_cons_succ]
          refine take (i := 6) (d := some 58) (v := undef) rfl (by kernel_rfl) (by kernel_rfl) (by kernel_rfl) (by kernel_rfl) (fun _ _ _ h => h) (Or.inr ⟨by rfl, rfl⟩) hHeld ?_
          simp only [Act.put, List.setIfInBounds_toArray, List.set_cons_zero, List.set_cons_succ]
          refine take (i := 7) (d := some 59) (v := undef) rfl (by kernel_rfl) (by kernel_rfl) (by kernel_rfl) (by kernel_rfl) (fun _ _ _ h => h) (Or.inr ⟨by rfl, rfl⟩) hHeld ?_
          simp only [Act.put, List.setIfInBounds_toArray, List.set_cons_zero, List.set_cons_succ]
          refine take (i := 8) (d := some 60) (v := undef) rfl (by kernel_rfl) (by kernel_rfl) (by kernel_rfl) (by kernel_rfl) (fun _ _ _ h => h) (Or.inr ⟨by rfl, rfl⟩) hHeld ?_
          simp only [Act.put, List.setIfInBounds_toArray, List.set_cons_zero, List.set_cons_succ]
          refine take (i := 9) (d := some 61) (v := undef) rfl (by kernel_rfl) (by kernel_rfl) (by kernel_rfl) (by kernel_rfl) (fun _ _ _ h => h) (Or.inr ⟨by rfl, rfl⟩) hHeld ?_
          simp only [Act.put, List.setIfInBounds_toArray, List.set_cons_zero, List.set_cons_succ]
          refine take (i := 10) (d := some 62) (v := undef) rfl (by kernel_rfl) (by kernel_rfl) (by kernel_rfl) (by kernel_rfl) (fun _ _ _ h => h) (Or.inr ⟨by rfl, rfl⟩) hHeld ?_
          simp only [Act.put, List.setIfInBounds_toArray, List.set_cons_zero, List.set_cons_succ]
          refine take (i := 11) (d := some 63) (v := undef) rfl (by kernel_rfl) (by kernel_rfl) (by kernel_rfl) (by kernel_rfl) (fun _ _ _ h => h) (Or.inr ⟨by rfl, rfl⟩) hHeld ?_
          simp only [Act.put, List.setIfInBounds_toArray, List.set_cons_zero, List.set_cons_succ]
          refine take (i := 12) (d := some 64) (v := undef) rfl (by kernel_rfl) (by kernel_rfl) (by kernel_rfl) (by kernel_rfl) (fun _ _ _ h => h) (Or.inr ⟨by rfl, rfl⟩) hHeld ?_
          simp only [Act.put, List.setIfInBounds_toArray, List.set_cons_zero, List.set_cons_succ]
          refine take (i := 13) (d := some 65) (v := undef) rfl (by kernel_rfl) (by kernel_rfl) (by kernel_rfl) (by kernel_rfl) (fun _ _ _ h => h) (Or.inr ⟨by rfl, rfl⟩) hHeld ?_
          simp only [Act.put, List.setIfInBounds_toArray, List.set_cons_zero, List.set_cons_succ]
          refine take (i := 14) (d := some 66) (v := undef) rfl (by kernel_rfl) (by kernel_rfl) (by kernel_rfl) (by kernel_rfl) (fun _ _ _ h => h) (Or.inr ⟨by rfl, rfl⟩) hHeld ?_
          simp only [Act.put, List.setIfInBounds_toArray, List.set_cons_zero, List.set_cons_succ]
          refine take (i := 15) (d := some 67) (v := .bool false) rfl (by kernel_rfl) (by kernel_rfl) (by kernel_rfl) (by kernel_rfl) (fun _ _ _ h => h) (Or.inl ⟨by rfl, by intro w hSw; go_simp⟩) hHeld ?_
          simp only [Act.put, List.setIfInBounds_toArray, List.set_cons_zero, List.set_cons_succ]
          refine wpAnyH_done (by kernel_rfl) ?_ _
          go_wp2
          go_roundw
          case rel => exact ⟨1, by omega, rfl, by repeat (first | exact hbel2 | apply Below.drew), kT2, HRi.out, fun j hj => by omega, fun i j h1 h2 => by omega⟩
          case measure => simp [intOf]; omega
      · obtain ⟨j, hj⟩ : ∃ j, i = j + 1 := ⟨i - 1, by omega⟩
        have hjn : j < n := by omega
        have hi0 : (i : Int) > 0 := by omega
        have hj1 : (i : Int) - 1 = (j : Int) := by omega
        have hwj : IntKind.i64.wrap (j : Int) = (j : Int) := by rw [IntKind.wrap_i64]; omega
        have hjz : (j : Int) < (n : Int) := by omega
        obtain ⟨d0, d1, d2, d3, d4, d5⟩ := ((hc j hjn).of hbel (At6.lt (hc j hjn))).six
        obtain ⟨y, hy⟩ : ∃ y, y = Q.getD j e0 := ⟨_, rfl⟩
        rw [← hy] at d0 d1 d2 d3 d4 d5
        have HY : Hid (Q.getD j e0 = y) := hy.symm
        have HJ : Hid (i = j + 1) := hj
        clear hy hj
        by_cases hr : rk x y < 0
        · have hcall := fun W => aheadS x y W true (by simp [hr])
          have HRk : Hid (rk x y < 0) := hr
          clear hr
          refine wp_region_held_drew (S := (fun w' => w'.cell? ⟨w.heap.size, 0, none⟩ = some (.int .i64 q) ∧ w'.cell? ⟨w.heap.size, 1, none⟩ = some (.slice (some ⟨b, off, none⟩) n cap) ∧ w'.cell? ⟨b, off + i * 6, none⟩ = some (.int .i64 x.ep) ∧ w'.cell? ⟨b, off + i * 6 + 1, none⟩ = some (.int .i64 x.pr) ∧ w'.cell? ⟨b, off + i * 6 + 2, none⟩ = some (.slice x.aV x.V.length x.cV) ∧ w'.cell? ⟨b, off + i * 6 + 3, none⟩ = some (.slice x.aM x.M.length x.cM) ∧ w'.cell? ⟨b, off + i * 6 + 4, none⟩ = some (.slice x.aA x.A.length x.cA) ∧ w'.cell? ⟨b, off + i * 6 + 5, none⟩ = some (.int .i64 x.h) ∧ w'.cell? ⟨b, off + j * 6, none⟩ = some (.int .i64 y.ep) ∧ w'.cell? ⟨b, off + j * 6 + 1, none⟩ = some (.int .i64 y.pr) ∧ w'.cell? ⟨b, off + j * 6 + 2, none⟩ = some (.slice y.aV y.V.length y.cV) ∧ w'.cell? ⟨b, off + j * 6 + 3, none⟩ = some (.slice y.aM y.M.length y.cM) ∧ w'.cell? ⟨b, off + j * 6 + 4, none⟩ = some (.slice y.aA y.A.length y.cA) ∧ w'.cell? ⟨b, off + j * 6 + 5, none⟩ = some (.int .i64 y.h))) (by kernel_rfl) ⟨p0, p1, c0, c1, c2, c3, c4, c5, d0, d1, d2, d3, d4, d5⟩ (fun hHeld => ?_)
          refine take (i := 0) (d := some 34) (v := .int .i64 i) rfl (by kernel_rfl) (by kernel_rfl) (by kernel_rfl) (by kernel_rfl) (fun _ _ _ h => h) (Or.inl ⟨by rfl, by intro w hSw; go_simp⟩) hHeld ?_
          simp only [Act.put, List.setIfInBounds_toArray, List.set_cons_zero, List.set_cons_succ]
          refine take (i := 1) (d := some 35) (v := .bool true) rfl (by kernel_rfl) (by kernel_rfl) (by kernel_rfl) (by kernel_rfl) (fun _ _ _ h => h) (Or.inl ⟨by rfl, by intro w hSw; go_simp⟩) hHeld ?_
          simp only [Act.put, List.setIfInBounds_toArray, List.set_cons_zero, List.set_cons_succ]
          refine take (i := 2) (d := some 36) (v := .bool true) rfl (by kernel_rfl) (by kernel_rfl) (by kernel_rfl) (by kernel_rfl) (fun _ _ _ h => h) (Or.inl ⟨by rfl, by intro w hSw; go_simp⟩) hHeld ?_
          simp only [Act.put, List.setIfInBounds_toArray, List.set_cons_zero, List.set_cons_succ]
          refine take (i := 3) (d := some 37) (v := .pointer (some ⟨w.heap.size, 1, none⟩)) rfl (by kernel_rfl) (by kernel_rfl) (by kernel_rfl) (by kernel_rfl) (fun _ _ _ h => h) (Or.inl ⟨by rfl, by intro w hSw; go_simp⟩) hHeld ?_
          simp only [Act.put, List.setIfInBounds_toArray, List.set_cons_zero, List.set_cons_succ]
          refine take (i := 4) (d := some 38) (v := .slice (some ⟨b, off, none⟩) n cap) rfl (by kernel_rfl) (by kernel_rfl) (by kernel_rfl) (by kernel_rfl) (fun _ _ _ h => h) (Or.inl ⟨by rfl, by intro w hSw; obtain ⟨p0, p1, c0, c1, c2, c3, c4, c5, d0, d1, d2, d3, d4, d5⟩ := hSw; go_simp⟩) hHeld ?_
          simp only [Act.put, List.setIfInBounds_toArray, List.set_cons_zero, List.set_cons_succ]
          refine take (i := 5) (d := some 39) (v := .int .i64 i) rfl (by kernel_rfl) (by kernel_rfl) (by kernel_rfl) (by kernel_rfl) (fun _ _ _ h => h) (Or.inl ⟨by rfl, by intro w hSw; go_simp⟩) hHeld ?_
          simp only [Act.put, List.setIfInBounds_toArray, List.set_cons_zero, List.set_cons_succ]
          refine take (i := 6) (d := some 40) (v := .pointer (some ⟨b, off + i * 6, none⟩)) rfl (by kernel_rfl) (by kernel_rfl) (by kernel_rfl) (by kernel_rfl) (fun _ _ _ h => h) (Or.inl ⟨by rfl, by intro w hSw; go_simp⟩) hHeld ?_
          simp only [Act.put, List.setIfInBounds_toArray, List.set_cons_zero, List.set_cons_succ]
          refine take (i := 7) (d := some 41) (v := .agg #[.int .i64 x.ep, .int .i64 x.pr, .slice x.aV x.V.length x.cV, .slice x.aM x.M.length x.cM, .slice x.aA x.A.length x.cA, .int .i64 x.h]) rfl (by kernel_rfl) (by kernel_rfl) (by kernel_rfl) (by kernel_rfl) (fun _ _ _ h => h) (Or.inl ⟨by rfl, by intro w hSw; obtain ⟨p0, p1, c0, c1, c2, c3, c4, c5, d0, d1, d2, d3, d4, d5⟩ := hSw; go_simp⟩) hHeld ?_
          simp only [Act.put, List.setIfInBounds_toArray, List.set_cons_zero, List.set_cons_succ]
          refine take (i := 8) (d := some 42) (v := .pointer (some ⟨w.heap.size, 1, none⟩)) rfl (by kernel_rfl) (by kernel_rfl) (by kernel_rfl) (by kernel_rfl) (fun _ _ _ h => h) (Or.inl ⟨by rfl, by intro w hSw; go_simp⟩) hHeld ?_
          simp only [Act.put, List.setIfInBounds_toArray, List.set_cons_zero, List.set_cons_succ]
          refine take (i := 9) (d := some 43) (v := .slice (some ⟨b, off, none⟩) n cap) rfl (by kernel_rfl) (by kernel_rfl) (by kernel_rfl) (by kernel_rfl) (fun _ _ _ h => h) (Or.inl ⟨by rfl, by intro w hSw; obtain ⟨p0, p1, c0, c1, c2, c3, c4, c5, d0, d1, d2, d3, d4, d5⟩ := hSw; go_simp⟩) hHeld ?_
          simp only [Act.put, List.setIfInBounds_toArray, List.set_cons_zero, List.set_cons_succ]
          refine take (i := 10) (d := some 44) (v := .int .i64 i) rfl (by kernel_rfl) (by kernel_rfl) (by kernel_rfl) (by kernel_rfl) (fun _ _ _ h => h) (Or.inl ⟨by rfl, by intro w hSw; go_simp⟩) hHeld ?_
          simp only [Act.put, List.setIfInBounds_toArray, List.set_cons_zero, List.set_cons_succ]
          refine take (i := 11) (d := some 45) (v := .int .i64 j) rfl (by kernel_rfl) (by kernel_rfl) (by kernel_rfl) (by kernel_rfl) (fun _ _ _ h => h) (Or.inl ⟨by rfl, by intro w hSw; go_simp⟩) hHeld ?_
          simp only [Act.put, List.setIfInBounds_toArray, List.set_cons_zero, List.set_cons_succ]
          refine take (i := 12) (d := some 46) (v := .pointer (some ⟨b, off + j * 6, none⟩)) rfl (by kernel_rfl) (by kernel_rfl) (by kernel_rfl) (by kernel_rfl) (fun _ _ _ h => h) (Or.inl ⟨by rfl, by intro w hSw; go_simp⟩) hHeld ?_
          simp only [Act.put, List.setIfInBounds_toArray, List.set_cons_zero, List.set_cons_succ]
          refine take (i := 13) (d := some 47) (v := .agg #[.int .i64 y.ep, .int .i64 y.pr, .slice y.aV y.V.length y.cV, .slice y.aM y.M.length y.cM, .slice y.aA y.A.length y.cA, .int .i64 y.h]) rfl (by kernel_rfl) (by kernel_rfl) (by kernel_rfl) (by kernel_rfl) (fun _ _ _ h => h) (Or.inl ⟨by rfl, by intro w hSw; obtain ⟨p0, p1, c0, c1, c2, c3, c4, c5, d0, d1, d2, d3, d4, d5⟩ := hSw; go_simp⟩) hHeld ?_
          simp only [Act.put, List.setIfInBounds_toArray, List.set_cons_zero, List.set_cons_succ]
          refine wpAnyH_ready (rs := [14]) (by kernel_rfl) (by simp) (Rg.call2 (i := 14) rfl (by rfl) 84 (.tmp 41) (.tmp 47) 41 41 (by kernel_rfl) 48 (by kernel_rfl) _ _ (by kernel_rfl) (by kernel_rfl) (fun _ => rfl) (hcall _) ?_ AllReadyH.nil)
          rintro e1 w1 ⟨rfl, hb⟩
          refine ⟨_, rfl, ⟨(hb.cell (by exact bt)).trans p0, (hb.cell (by exact bt)).trans p1, (hb.cell (by exact bl)).trans c0, (hb.cell (by exact bl)).trans c1, (hb.cell (by exact bl)).trans c2, (hb.cell (by exact bl)).trans c3, (hb.cell (by exact bl)).trans c4, (hb.cell (by exact bl)).trans c5, (hb.cell (by exact bl)).trans d0, (hb.cell (by exact bl)).trans d1, (hb.cell (by exact bl)).trans d2, (hb.cell (by exact bl)).trans d3, (hb.cell (by exact bl)).trans d4, (hb.cell (by exact bl)).trans d5⟩, fun hHeld => ?_⟩
          simp only [Act.put, List.setIfInBounds_toArray, List.set_cons_zero, List.set_cons_succ]
          refine take (i := 15) (d := some 49) (v := .bool true) rfl (by kernel_rfl) (by kernel_rfl) (by kernel_rfl) (by kernel_rfl) (fun _ _ _ h => h) (Or.inl ⟨by rfl, by intro w hSw; go_simp⟩) hHeld ?_
          simp only [Act.put, List.setIfInBounds_toArray, List.set_cons_zero, List.set_cons_succ]
          refine wpAnyH_done (by kernel_rfl) ?_ _
          go_wp2
          go_ret
          exact ⟨ret_bool (no (¬ rk x y < 0) (fun t => by have := t.2.2.2.sorted j (by have := HN.out; have := HJ.out; omega); have e1 := HJ.out; rw [← e1, HX.out, HY.out] at this; exact this) (fun t => t HRk.out)), Rw.next (by repeat (first | exact hbel | apply Below.drew)) hb⟩
        · have hcall := fun W => aheadS x y W false (by simp [hr])
          have HRk : Hid (¬ rk x y < 0) := hr
          clear hr
          refine wp_region_held_drew (S := (fun w' => w'.cell? ⟨w.heap.size, 0, none⟩ = some (.int .i64 q) ∧ w'.cell? ⟨w.heap.size, 1, none⟩ = some (.slice (some ⟨b, off, none⟩) n cap) ∧ w'.cell? ⟨b, off + i * 6, none⟩ = some (.int .i64 x.ep) ∧ w'.cell? ⟨b, off + i * 6 + 1, none⟩ = some (.int .i64 x.pr) ∧ w'.cell? ⟨b, off + i * 6 + 2, none⟩ = some (.slice x.aV x.V.length x.cV) ∧ w'.cell? ⟨b, off + i * 6 + 3, none⟩ = some (.slice x.aM x.M.length x.cM) ∧ w'.cell? ⟨b, off + i * 6 + 4, none⟩ = some (.slice x.aA x.A.length x.cA) ∧ w'.cell? ⟨b, off + i * 6 + 5, none⟩ = some (.int .i64 x.h) ∧ w'.cell? ⟨b, off + j * 6, none⟩ = some (.int .i64 y.ep) ∧ w'.cell? ⟨b, off + j * 6 + 1, none⟩ = some (.int .i64 y.pr) ∧ w'.cell? ⟨b, off + j * 6 + 2, none⟩ = some (.slice y.aV y.V.length y.cV) ∧ w'.cell? ⟨b, off + j * 6 + 3, none⟩ = some (.slice y.aM y.M.length y.cM) ∧ w'.cell? ⟨b, off + j * 6 + 4, none⟩ = some (.slice y.aA y.A.length y.cA) ∧ w'.cell? ⟨b, off + j * 6 + 5, none⟩ = some (.int .i64 y.h))) (by kernel_rfl) ⟨p0, p1, c0, c1, c2, c3, c4, c5, d0, d1, d2, d3, d4, d5⟩ (fun hHeld => ?_)
          refine take (i := 0) (d := some 34) (v := .int .i64 i) rfl (by kernel_rfl) (by kernel_rfl) (by kernel_rfl) (by kernel_rfl) (fun _ _ _ h => h) (Or.inl ⟨by rfl, by intro w hSw; go_simp⟩) hHeld ?_
          simp only [Act.put, List.setIfInBounds_toArray, List.set_cons_zero, List.set_cons_succ]
          refine take (i := 1) (d := some 35) (v := .bool true) rfl (by kernel_rfl) (by kernel_rfl) (by kernel_rfl) (by kernel_rfl) (fun _ _ _ h => h) (Or.inl ⟨by rfl, by intro w hSw; go_simp⟩) hHeld ?_
          simp only [Act.put, List.setIfInBounds_toArray, List.set_cons_zero, List.set_cons_succ]
          refine take (i := 2) (d := some 36) (v := .bool true) rfl (by kernel_rfl) (by kernel_rfl) (by kernel_rfl) (by kernel_rfl) (fun _ _ _ h => h) (Or.inl ⟨by rfl, by intro w hSw; go_simp⟩) hHeld ?_
          simp only [Act.put, List.setIfInBounds_toArray, List.set_cons_zero, List.set_cons_succ]
          refine take (i := 3) (d := some 37) (v := .pointer (some ⟨w.heap.size, 1, none⟩)) rfl (by kernel_rfl) (by kernel_rfl) (by kernel_rfl) (by kernel_rfl) (fun _ _ _ h => h) (Or.inl ⟨by rfl, by intro w hSw; go_simp⟩) hHeld ?_
          simp only [Act.put, List.setIfInBounds_toArray, List.set_cons_zero, List.set_cons_succ]
          refine take (i := 4) (d := some 38) (v := .slice (some ⟨b, off, none⟩) n cap) rfl (by kernel_rfl) (by kernel_rfl) (by kernel_rfl) (by kernel_rfl) (fun _ _ _ h => h) (Or.inl ⟨by rfl, by intro w hSw; obtain ⟨p0, p1, c0, c1, c2, c3, c4, c5, d0, d1, d2, d3, d4, d5⟩ := hSw; go_simp⟩) hHeld ?_
          simp only [Act.put, List.setIfInBounds_toArray, List.set_cons_zero, List.set_cons_succ]
          refine take (i := 5) (d := some 39) (v := .int .i64 i) rfl (by kernel_rfl) (by kernel_rfl) (by kernel_rfl) (by kernel_rfl) (fun _ _ _ h => h) (Or.inl ⟨by rfl, by intro w hSw; go_simp⟩) hHeld ?_
          simp only [Act.put, List.setIfInBounds_toArray, List.set_cons_zero, List.set_cons_succ]
          refine take (i := 6) (d := some 40) (v := .pointer (some ⟨b, off + i * 6, none⟩)) rfl (by kernel_rfl) (by kernel_rfl) (by kernel_rfl) (by kernel_rfl) (fun _ _ _ h => h) (Or.inl ⟨by rfl, by intro w hSw; go_simp⟩) hHeld ?_
          simp only [Act.put, List.setIfInBounds_toArray, List.set_cons_zero, List.set_cons_succ]
          refine take (i := 7) (d := some 41) (v := .agg #[.int .i64 x.ep, .int .i64 x.pr, .slice x.aV x.V.length x.cV, .slice x.aM x.M.length x.cM, .slice x.aA x.A.length x.cA, .int .i64 x.h]) rfl (by kernel_rfl) (by kernel_rfl) (by kernel_rfl) (by kernel_rfl) (fun _ _ _ h => h) (Or.inl ⟨by rfl, by intro w hSw; obtain ⟨p0, p1, c0, c1, c2, c3, c4, c5, d0, d1, d2, d3, d4, d5⟩ := hSw; go_simp⟩) hHeld ?_
          simp only [Act.put, List.setIfInBounds_toArray, List.set_cons_zero, List.set_cons_succ]
          refine take (i := 8) (d := some 42) (v := .pointer (some ⟨w.heap.size, 1, none⟩)) rfl (by kernel_rfl) (by kernel_rfl) (by kernel_rfl) (by kernel_rfl) (fun _ _ _ h => h) (Or.inl ⟨by rfl, by intro w hSw; go_simp⟩) hHeld ?_
          simp only [Act.put, List.setIfInBounds_toArray, List.set_cons_zero, List.set_cons_succ]
          refine take (i := 9) (d := some 43) (v := .slice (some ⟨b, off, none⟩) n cap) rfl (by kernel_rfl) (by kernel_rfl) (by kernel_rfl) (by kernel_rfl) (fun _ _ _ h => h) (Or.inl ⟨by rfl, by intro w hSw; obtain ⟨p0, p1, c0, c1, c2, c3, c4, c5, d0, d1, d2, d3, d4, d5⟩ := hSw; go_simp⟩) hHeld ?_
          simp only [Act.put, List.setIfInBounds_toArray, List.set_cons_zero, List.set_cons_succ]
          refine take (i := 10) (d := some 44) (v := .int .i64 i) rfl (by kernel_rfl) (by kernel_rfl) (by kernel_rfl) (by kernel_rfl) (fun _ _ _ h => h) (Or.inl ⟨by rfl, by intro w hSw; go_simp⟩) hHeld ?_
          simp only [Act.put, List.setIfInBounds_toArray, List.set_cons_zero, List.set_cons_succ]
          refine take (i := 11) (d := some 45) (v := .int .i64 j) rfl (by kernel_rfl) (by kernel_rfl) (by kernel_rfl) (by kernel_rfl) (fun _ _ _ h => h) (Or.inl ⟨by rfl, by intro w hSw; go_simp⟩) hHeld ?_
          simp only [Act.put, List.setIfInBounds_toArray, List.set_cons_zero, List.set_cons_succ]
          refine take (i := 12) (d := some 46) (v := .pointer (some ⟨b, off + j * 6, none⟩)) rfl (by kernel_rfl) (by kernel_rfl) (by kernel_rfl) (by kernel_rfl) (fun _ _ _ h => h) (Or.inl ⟨by rfl, by intro w hSw; go_simp⟩) hHeld ?_
          simp only [Act.put, List.setIfInBounds_toArray, List.set_cons_zero, List.set_cons_succ]
          refine take (i := 13) (d := some 47) (v := .agg #[.int .i64 y.ep, .int .i64 y.pr, .slice y.aV y.V.length y.cV, .slice y.aM y.M.length y.cM, .slice y.aA y.A.length y.cA, .int .i64 y.h]) rfl (by kernel_rfl) (by kernel_rfl) (by kernel_rfl) (by kernel_rfl) (fun _ _ _ h => h) (Or.inl ⟨by rfl, by intro w hSw; obtain ⟨p0, p1, c0, c1, c2, c3, c4, c5, d0, d1, d2, d3, d4, d5⟩ := hSw; go_simp⟩) hHeld ?_
          simp only [Act.put, List.setIfInBounds_toArray, List.set_cons_zero, List.set_cons_succ]
          refine wpAnyH_ready (rs := [14]) (by kernel_rfl) (by simp) (Rg.call2 (i := 14) rfl (by rfl) 84 (.tmp 41) (.tmp 47) 41 41 (by kernel_rfl) 48 (by kernel_rfl) _ _ (by kernel_rfl) (by kernel_rfl) (fun _ => rfl) (hcall _) ?_ AllReadyH.nil)
          rintro e1 w1 ⟨rfl, hb⟩
          refine ⟨_, rfl, ⟨(hb.cell (by exact bt)).trans p0, (hb.cell (by exact bt)).trans p1, (hb.cell (by exact bl)).trans c0, (hb.cell (by exact bl)).trans c1, (hb.cell (by exact bl)).trans c2, (hb.cell (by exact bl)).trans c3, (hb.cell (by exact bl)).trans c4, (hb.cell (by exact bl)).trans c5, (hb.cell (by exact bl)).trans d0, (hb.cell (by exact bl)).trans d1, (hb.cell (by exact bl)).trans d2, (hb.cell (by exact bl)).trans d3, (hb.cell (by exact bl)).trans d4, (hb.cell (by exact bl)).trans d5⟩, fun hHeld => ?_⟩
          simp only [Act.put, List.setIfInBounds_toArray, List.set_cons_zero, List.set_cons_succ]
          refine take (i := 15) (d := some 49) (v := .bool false) rfl (by kernel_rfl) (by kernel_rfl) (by kernel_rfl) (by kernel_rfl) (fun _ _ _ h => h) (Or.inl ⟨by rfl, by intro w hSw; go_simp⟩) hHeld ?_
          simp only [Act.put, List.setIfInBounds_toArray, List.set_cons_zero, List.set_cons_succ]
          refine wpAnyH_done (by kernel_rfl) ?_ _
          replace kT := (hb.block _ bt).trans kT
          replace hbel := Rw.next (by repeat (first | exact hbel | apply Below.drew)) hb
          clear hb c0 c1 c2 c3 c4 c5 d0 d1 d2 d3 d4 d5 p0 p1 hcall ok bl bt
          have HSo := HS1.out (fun j' hj' => by
            have e1 : j' = j := by have := HJ.out; omega
            rw [e1, HY.out]; exact HRk.out)
          have HSo1 : Hid (∀ j, j + 1 < i + 1 → ¬ rk (Q.getD (j + 1) e0) (Q.getD j e0) < 0) := HSo
          clear HSo HS1
          go_wp2
          go_loopw [4] (fun u wr => ∃ (z : Int) (k : Nat), z + 1 = k ∧ k ≤ i ∧ u = .int .i64 z ∧ Below w.heap.size w wr ∧ wr.heap[w.heap.size]? = some (.cells #[.int .i64 q, .slice (some ⟨b, off, none⟩) n cap] 38 (0, 0)) ∧ ∀ m, k ≤ m → m < i → ¬ (rk (Q.getD m e0) x = 0 ∧ (Q.getD m e0).V = x.V ∧ (Q.getD m e0).M = x.M)) (fun u _ => (intOf u + 1).toNat)
          case atStart => exact ⟨j, i, by omega, Nat.le_refl _, by first | rfl | go_num, hbel, kT, fun m h1 h2 => by omega⟩
          case round =>
            clear kT hbel
            obtain ⟨z, k, hzk, hki, rfl, hbel, kT, hinn⟩ := hrel
            have HI : Hid (∀ m, k ≤ m → m < i → ¬ (rk (Q.getD m e0) x = 0 ∧ (Q.getD m e0).V = x.V ∧ (Q.getD m e0).M = x.M)) := hinn
            clear hinn hj1 hjz hwj
            obtain ⟨p0, p1⟩ := Pm.two kT
            have bt := blk_lt kT
            have fin : (∀ m, m < i → ¬ (rk (Q.getD m e0) x = 0 ∧ (Q.getD m e0).V = x.V ∧ (Q.getD m e0).M = x.M)) → Upto Q (i + 1) := by
              intro hall
              refine ⟨HRi.out, fun j hj => by have := HSo1.out j hj; omega, fun m m' h1 h2 h3 h4 => ?_⟩
              by_cases e1 : m' = i
              · subst e1
                rw [HX.out] at h3 h4
                exact hall m h1 ⟨h3, h4⟩
              · exact HU.out.once m m' h1 (by omega) h3 h4
            have HFi : Hid ((∀ m, m < i → ¬ (rk (Q.getD m e0) x = 0 ∧ (Q.getD m e0).V = x.V ∧ (Q.getD m e0).M = x.M)) → Upto Q (i + 1)) := fin
            clear fin
            rcases Nat.eq_zero_or_pos k with hk0 | hk0
            · obtain rfl : z = -1 := by omega
              go_wp2
              refine wp_region_held_drew (S := (fun _ => True)) (by kernel_rfl) trivial (fun hHeld => ?_)
              refine take (i := 0) (d := some 52) (v := .int .i64 (-1)) rfl (by kernel_rfl) (by kernel_rfl) (by kernel_rfl) (by kernel_rfl) (fun _ _ _ h => h) (Or.inl ⟨by rfl, by intro w hSw; go_simp⟩) hHeld ?_
              simp only [Act.put, List.setIfInBounds_toArray, List.set_cons_zero, List.set_cons_succ]
              refine take (i := 1) (d := some 53) (v := .bool false) rfl (by kernel_rfl) (by kernel_rfl) (by kernel_rfl) (by kernel_rfl) (fun _ _ _ h => h) (Or.inl ⟨by rfl, by intro w hSw; go_simp⟩) hHeld ?_
              simp only [Act.put, List.setIfInBounds_toArray, List.set_cons_zero, List.set_cons_succ]
              refine take (i := 2) (d := some 54) (v := .bool false) rfl (by kernel_rfl) (by kernel_rfl) (by kernel_rfl) (by kernel_rfl) (fun _ _ _ h => h) (Or.inl ⟨by rfl, by intro w hSw; go_simp⟩) hHeld ?_
              simp only [Act.put, List.setIfInBounds_toArray, List.set_cons_zero, List.set_cons_succ]
              refine take (i := 3) (d := some 55) (v := undef) rfl (by kernel_rfl) (by kernel_rfl) (by kernel_rfl) (by kernel_rfl) (fun _ _ _ h => h) (Or.inr ⟨by rfl, rfl⟩) hHeld ?_
              simp only [Act.put, List.setIfInBounds_toArray, List.set_cons_zero, List.set_cons_succ]
              refine take (i := 4) (d := some 56) (v := undef) rfl (by kernel_rfl) (by kernel_rfl) (by kernel_rfl) (by kernel_rfl) (fun _ _ _ h => h) (Or.inr ⟨by rfl, rfl⟩) hHeld ?_
              simp only [Act.put, List.setIfInBounds_toArray, List.set_cons_zero, List.set_cons_succ]
              refine take (i := 5) (d := some 57) (v := undef) rfl (by kernel_rfl) (by kernel_rfl) (by kernel_rfl) (by kernel_rfl) (fun _ _ _ h => h) (Or.inr ⟨by rfl, rfl⟩) hHeld ?_
              simp only [Act.put, List.setIfInBounds_toArray, List.set_cons_zero, List.set_cons_succ]
              refine take (i := 6) (d := some 58) (v := undef) rfl (by kernel_rfl) (by kernel_rfl) (by kernel_rfl) (by kernel_rfl) (fun _ _ _ h => h) (Or.inr ⟨by rfl, rfl⟩) hHeld ?_
              simp only [Act.put, List.setIfInBounds_toArray, List.set_cons_zero, List.set_cons_succ]
              refine take (i := 7) (d := some 59) (v := undef) rfl (by kernel_rfl) (by kernel_rfl) (by kernel_rfl) (by kernel_rfl) (fun _ _ _ h => h) (Or.inr ⟨by rfl, rfl⟩) hHeld ?_
              simp only [Act.put, List.setIfInBounds_toArray, List.set_cons_zero, List.set_cons_succ]
              refine take (i := 8) (d := some 60) (v := undef) rfl (by kernel_rfl) (by kernel_rfl) (by kernel_rfl) (by kernel_rfl) (fun _ _ _ h => h) (Or.inr ⟨by rfl, rfl⟩) hHeld ?_
              simp only [Act.put, List.setIfInBounds_toArray, List.set_cons_zero, List.set_cons_succ]
              refine take (i := 9) (d := some 61) (v := undef) rfl (by kernel_rfl) (by kernel_rfl) (by kernel_rfl) (by kernel_rfl) (fun _ _ _ h => h) (Or.inr ⟨by rfl, rfl⟩) hHeld ?_
              simp only [Act.put, List.setIfInBounds_toArray, List.set_cons_zero, List.set_cons_succ]
              refine take (i := 10) (d := some 62) (v := undef) rfl (by kernel_rfl) (by kernel_rfl) (by kernel_rfl) (by kernel_rfl) (fun _ _ _ h => h) (Or.inr ⟨by rfl, rfl⟩) hHeld ?_
              simp only [Act.put, List.setIfInBounds_toArray, List.set_cons_zero, List.set_cons_succ]
              refine take (i := 11) (d := some 63) (v := undef) rfl (by kernel_rfl) (by kernel_rfl) (by kernel_rfl) (by kernel_rfl) (fun _ _ _ h => h) (Or.inr ⟨by rfl, rfl⟩) hHeld ?_
              simp only [Act.put, List.setIfInBounds_toArray, List.set_cons_zero, List.set_cons_succ]
              refine take (i := 12) (d := some 64) (v := undef) rfl (by kernel_rfl) (by kernel_rfl) (by kernel_rfl) (by kernel_rfl) (fun _ _ _ h => h) (Or.inr ⟨by rfl, rfl⟩) hHeld ?_
              simp only [Act.put, List.setIfInBounds_toArray, List.set_cons_zero, List.set_cons_succ]
              refine take (i := 13) (d := some 65) (v := undef) rfl (by kernel_rfl) (by kernel_rfl) (by kernel_rfl) (by kernel_rfl) (fun _ _ _ h => h) (Or.inr ⟨by rfl, rfl⟩) hHeld ?_
              simp only [Act.put, List.setIfInBounds_toArray, List.set_cons_zero, List.set_cons_succ]
              refine take (i := 14) (d := some 66) (v := undef) rfl (by kernel_rfl) (by kernel_rfl) (by kernel_rfl) (by kernel_rfl) (fun _ _ _ h => h) (Or.inr ⟨by rfl, rfl⟩) hHeld ?_
              simp only [Act.put, List.setIfInBounds_toArray, List.set_cons_zero, List.set_cons_succ]
              refine take (i := 15) (d := some 67) (v := .bool false) rfl (by kernel_rfl) (by kernel_rfl) (by kernel_rfl) (by kernel_rfl) (fun _ _ _ h => h) (Or.inl ⟨by rfl, by intro w hSw; go_simp⟩) hHeld ?_
              simp only [Act.put, List.setIfInBounds_toArray, List.set_cons_zero, List.set_cons_succ]
              refine wpAnyH_done (by kernel_rfl) ?_ _
              go_wp2
              go_roundw
              case rel => exact ⟨i + 1, by omega, by go_num, by repeat (first | exact hbel | apply Below.drew), kT, HFi.out (fun m hm => HI.out m (by omega) hm)⟩
              case measure => simp [intOf]; omega
            · obtain ⟨j', hj'⟩ : ∃ j', k = j' + 1 := ⟨k - 1, by omega⟩
              obtain rfl : z = (j' : Int) := by omega
              clear hjn HY HRk HJ
              obtain ⟨j, hj⟩ : ∃ j, j = j' := ⟨_, rfl⟩
              subst hj
              have hjn : j < n := by omega
              have hj0 : (j : Int) ≥ 0 := by omega
              have hjz : (j : Int) < (n : Int) := by omega
              obtain ⟨c0, c1, c2, c3, c4, c5⟩ := ((hc i hlt).of hbel (At6.lt (hc i hlt))).six
              rw [HX.out] at c0 c1 c2 c3 c4 c5
              obtain ⟨d0, d1, d2, d3, d4, d5⟩ := ((hc j hjn).of hbel (At6.lt (hc j hjn))).six
              have oky := (ho j hjn).of hbel (Nat.le_refl _)
              have okx := (ho i hlt).of hbel (Nat.le_refl _)
              rw [HX.out] at okx
              have bl : b < wr.heap.size := World.block_lt_of_cell? _ _ c0
              obtain ⟨y, hy⟩ : ∃ y, y = Q.getD j e0 := ⟨_, rfl⟩
              rw [← hy] at d0 d1 d2 d3 d4 d5 oky
              have HY : Hid (Q.getD j e0 = y) := hy.symm
              have HJ : Hid (k = j + 1) := hj'
              clear hy hj'
              have ey : enB y.said = true := by rw [← HY.out]; exact HRi.out j (by omega)
              have ex := HE.out
              by_cases hr : rk y x < 0
              · have hcall := fun W => aheadS y x W true (by simp [hr])
                have HRk : Hid (rk y x < 0) := hr
                clear hr
                go_wp2
                refine wp_region_held_drew (S := (fun w' => w'.cell? ⟨w.heap.size, 0, none⟩ = some (.int .i64 q) ∧ w'.cell? ⟨w.heap.size, 1, none⟩ = some (.slice (some ⟨b, off, none⟩) n cap) ∧ w'.cell? ⟨b, off + i * 6, none⟩ = some (.int .i64 x.ep) ∧ w'.cell? ⟨b, off + i * 6 + 1, none⟩ = some (.int .i64 x.pr) ∧ w'.cell? ⟨b, off + i * 6 + 2, none⟩ = some (.slice x.aV x.V.length x.cV) ∧ w'.cell? ⟨b, off + i * 6 + 3, none⟩ = some (.slice x.aM x.M.length x.cM) ∧ w'.cell? ⟨b, off + i * 6 + 4, none⟩ = some (.slice x.aA x.A.length x.cA) ∧ w'.cell? ⟨b, off + i * 6 + 5, none⟩ = some (.int .i64 x.h) ∧ w'.cell? ⟨b, off + j * 6, none⟩ = some (.int .i64 y.ep) ∧ w'.cell? ⟨b, off + j * 6 + 1, none⟩ = some (.int .i64 y.pr) ∧ w'.cell? ⟨b, off + j * 6 + 2, none⟩ = some (.slice y.aV y.V.length y.cV) ∧ w'.cell? ⟨b, off + j * 6 + 3, none⟩ = some (.slice y.aM y.M.length y.cM) ∧ w'.cell? ⟨b, off + j * 6 + 4, none⟩ = some (.slice y.aA y.A.length y.cA) ∧ w'.cell? ⟨b, off + j * 6 + 5, none⟩ = some (.int .i64 y.h))) (by kernel_rfl) ⟨p0, p1, c0, c1, c2, c3, c4, c5, d0, d1, d2, d3, d4, d5⟩ (fun hHeld => ?_)
                refine take (i := 0) (d := some 52) (v := .int .i64 j) rfl (by kernel_rfl) (by kernel_rfl) (by kernel_rfl) (by kernel_rfl) (fun _ _ _ h => h) (Or.inl ⟨by rfl, by intro w hSw; go_simp⟩) hHeld ?_
                simp only [Act.put, List.setIfInBounds_toArray, List.set_cons_zero, List.set_cons_succ]
                refine take (i := 1) (d := some 53) (v := .bool true) rfl (by kernel_rfl) (by kernel_rfl) (by kernel_rfl) (by kernel_rfl) (fun _ _ _ h => h) (Or.inl ⟨by rfl, by intro w hSw; go_simp⟩) hHeld ?_
                simp only [Act.put, List.setIfInBounds_toArray, List.set_cons_zero, List.set_cons_succ]
                refine take (i := 2) (d := some 54) (v := .bool true) rfl (by kernel_rfl) (by kernel_rfl) (by kernel_rfl) (by kernel_rfl) (fun _ _ _ h => h) (Or.inl ⟨by rfl, by intro w hSw; go_simp⟩) hHeld ?_
                simp only [Act.put, List.setIfInBounds_toArray, List.set_cons_zero, List.set_cons_succ]
                refine take (i := 3) (d := some 55) (v := .pointer (some ⟨w.heap.size, 1, none⟩)) rfl (by kernel_rfl) (by kernel_rfl) (by kernel_rfl) (by kernel_rfl) (fun _ _ _ h => h) (Or.inl ⟨by rfl, by intro w hSw; go_simp⟩) hHeld ?_
                simp only [Act.put, List.setIfInBounds_toArray, List.set_cons_zero, List.set_cons_succ]
                refine take (i := 4) (d := some 56) (v := .slice (some ⟨b, off, none⟩) n cap) rfl (by kernel_rfl) (by kernel_rfl) (by kernel_rfl) (by kernel_rfl) (fun _ _ _ h => h) (Or.inl ⟨by rfl, by intro w hSw; obtain ⟨p0, p1, c0, c1, c2, c3, c4, c5, d0, d1, d2, d3, d4, d5⟩ := hSw; go_simp⟩) hHeld ?_
                simp only [Act.put, List.setIfInBounds_toArray, List.set_cons_zero, List.set_cons_succ]
                refine take (i := 5) (d := some 57) (v := .int .i64 j) rfl (by kernel_rfl) (by kernel_rfl) (by kernel_rfl) (by kernel_rfl) (fun _ _ _ h => h) (Or.inl ⟨by rfl, by intro w hSw; go_simp⟩) hHeld ?_
                simp only [Act.put, List.setIfInBounds_toArray, List.set_cons_zero, List.set_cons_succ]
                refine take (i := 6) (d := some 58) (v := .pointer (some ⟨b, off + j * 6, none⟩)) rfl (by kernel_rfl) (by kernel_rfl) (by kernel_rfl) (by kernel_rfl) (fun _ _ _ h => h) (Or.inl ⟨by rfl, by intro w hSw; go_simp⟩) hHeld ?_
                simp only [Act.put, List.setIfInBounds_toArray, List.set_cons_zero, List.set_cons_succ]
                refine take (i := 7) (d := some 59) (v := .agg #[.int .i64 y.ep, .int .i64 y.pr, .slice y.aV y.V.length y.cV, .slice y.aM y.M.length y.cM, .slice y.aA y.A.length y.cA, .int .i64 y.h]) rfl (by kernel_rfl) (by kernel_rfl) (by kernel_rfl) (by kernel_rfl) (fun _ _ _ h => h) (Or.inl ⟨by rfl, by intro w hSw; obtain ⟨p0, p1, c0, c1, c2, c3, c4, c5, d0, d1, d2, d3, d4, d5⟩ := hSw; go_simp⟩) hHeld ?_
                simp only [Act.put, List.setIfInBounds_toArray, List.set_cons_zero, List.set_cons_succ]
                refine take (i := 8) (d := some 60) (v := .pointer (some ⟨w.heap.size, 1, none⟩)) rfl (by kernel_rfl) (by kernel_rfl) (by kernel_rfl) (by kernel_rfl) (fun _ _ _ h => h) (Or.inl ⟨by rfl, by intro w hSw; go_simp⟩) hHeld ?_
                simp only [Act.put, List.setIfInBounds_toArray, List.set_cons_zero, List.set_cons_succ]
                refine take (i := 9) (d := some 61) (v := .slice (some ⟨b, off, none⟩) n cap) rfl (by kernel_rfl) (by kernel_rfl) (by kernel_rfl) (by kernel_rfl) (fun _ _ _ h => h) (Or.inl ⟨by rfl, by intro w hSw; obtain ⟨p0, p1, c0, c1, c2, c3, c4, c5, d0, d1, d2, d3, d4, d5⟩ := hSw; go_simp⟩) hHeld ?_
                simp only [Act.put, List.setIfInBounds_toArray, List.set_cons_zero, List.set_cons_succ]
                refine take (i := 10) (d := some 62) (v := .int .i64 i) rfl (by kernel_rfl) (by kernel_rfl) (by kernel_rfl) (by kernel_rfl) (fun _ _ _ h => h) (Or.inl ⟨by rfl, by intro w hSw; go_simp⟩) hHeld ?_
                simp only [Act.put, List.setIfInBounds_toArray, List.set_cons_zero, List.set_cons_succ]
                refine take (i := 11) (d := some 63) (v := .pointer (some ⟨b, off + i * 6, none⟩)) rfl (by kernel_rfl) (by kernel_rfl) (by kernel_rfl) (by kernel_rfl) (fun _ _ _ h => h) (Or.inl ⟨by rfl, by intro w hSw; go_simp⟩) hHeld ?_
                simp only [Act.put, List.setIfInBounds_toArray, List.set_cons_zero, List.set_cons_succ]
                refine take (i := 12) (d := some 64) (v := .agg #[.int .i64 x.ep, .int .i64 x.pr, .slice x.aV x.V.length x.cV, .slice x.aM x.M.length x.cM, .slice x.aA x.A.length x.cA, .int .i64 x.h]) rfl (by kernel_rfl) (by kernel_rfl) (by kernel_rfl) (by kernel_rfl) (fun _ _ _ h => h) (Or.inl ⟨by rfl, by intro w hSw; obtain ⟨p0, p1, c0, c1, c2, c3, c4, c5, d0, d1, d2, d3, d4, d5⟩ := hSw; go_simp⟩) hHeld ?_
                simp only [Act.put, List.setIfInBounds_toArray, List.set_cons_zero, List.set_cons_succ]
                refine wpAnyH_ready (rs := [13]) (by kernel_rfl) (by simp) (Rg.call2 (i := 13) rfl (by rfl) 84 (.tmp 59) (.tmp 64) 41 41 (by kernel_rfl) 65 (by kernel_rfl) _ _ (by kernel_rfl) (by kernel_rfl) (fun _ => rfl) (hcall _) ?_ AllReadyH.nil)
                rintro e1 w1 ⟨rfl, hb⟩
                refine ⟨_, rfl, ⟨(hb.cell (by exact bt)).trans p0, (hb.cell (by exact bt)).trans p1, (hb.cell (by exact bl)).trans c0, (hb.cell (by exact bl)).trans c1, (hb.cell (by exact bl)).trans c2, (hb.cell (by exact bl)).trans c3, (hb.cell (by exact bl)).trans c4, (hb.cell (by exact bl)).trans c5, (hb.cell (by exact bl)).trans d0, (hb.cell (by exact bl)).trans d1, (hb.cell (by exact bl)).trans d2, (hb.cell (by exact bl)).trans d3, (hb.cell (by exact bl)).trans d4, (hb.cell (by exact bl)).trans d5⟩, fun hHeld => ?_⟩
                simp only [Act.put, List.setIfInBounds_toArray, List.set_cons_zero, List.set_cons_succ]
                refine take (i := 14) (d := some 66) (v := .bool false) rfl (by kernel_rfl) (by kernel_rfl) (by kernel_rfl) (by kernel_rfl) (fun _ _ _ h => h) (Or.inl ⟨by rfl, by intro w hSw; go_simp⟩) hHeld ?_
                simp only [Act.put, List.setIfInBounds_toArray, List.set_cons_zero, List.set_cons_succ]
                refine take (i := 15) (d := some 67) (v := .bool false) rfl (by kernel_rfl) (by kernel_rfl) (by kernel_rfl) (by kernel_rfl) (fun _ _ _ h => h) (Or.inl ⟨by rfl, by intro w hSw; go_simp⟩) hHeld ?_
                simp only [Act.put, List.setIfInBounds_toArray, List.set_cons_zero, List.set_cons_succ]
                refine wpAnyH_done (by kernel_rfl) ?_ _
                replace kT := (hb.block _ bt).trans kT
                go_wp2
                go_roundw
                case rel => exact ⟨i + 1, by omega, by go_num, Rw.next (by repeat (first | exact hbel | apply Below.drew)) hb, kT, HFi.out (fun m hm => by
                  rcases Nat.lt_or_ge m k with h1 | h1
                  · rintro ⟨e1, _⟩
                    have a1 := HU.out.le (i := m) (j := j) (by have := HJ.out; omega) (by have := HJ.out; omega)
                    have a2 := HRk.out
                    rw [HY.out] at a1
                    rw [rk_lt] at a1 a2
                    rw [rk_eq] at e1
                    omega
                  · exact HI.out m h1 hm)⟩
                case measure => simp [intOf]; omega
              · have hcall := fun W => aheadS y x W false (by simp [hr])
                have HRk : Hid (¬ rk y x < 0) := hr
                clear hr
                go_wp2
                refine wp_region_held_drew (S := (fun w' => w'.cell? ⟨w.heap.size, 0, none⟩ = some (.int .i64 q) ∧ w'.cell? ⟨w.heap.size, 1, none⟩ = some (.slice (some ⟨b, off, none⟩) n cap) ∧ w'.cell? ⟨b, off + i * 6, none⟩ = some (.int .i64 x.ep) ∧ w'.cell? ⟨b, off + i * 6 + 1, none⟩ = some (.int .i64 x.pr) ∧ w'.cell? ⟨b, off + i * 6 + 2, none⟩ = some (.slice x.aV x.V.length x.cV) ∧ w'.cell? ⟨b, off + i * 6 + 3, none⟩ = some (.slice x.aM x.M.length x.cM) ∧ w'.cell? ⟨b, off + i * 6 + 4, none⟩ = some (.slice x.aA x.A.length x.cA) ∧ w'.cell? ⟨b, off + i * 6 + 5, none⟩ = some (.int .i64 x.h) ∧ w'.cell? ⟨b, off + j * 6, none⟩ = some (.int .i64 y.ep) ∧ w'.cell? ⟨b, off + j * 6 + 1, none⟩ = some (.int .i64 y.pr) ∧ w'.cell? ⟨b, off + j * 6 + 2, none⟩ = some (.slice y.aV y.V.length y.cV) ∧ w'.cell? ⟨b, off + j * 6 + 3, none⟩ = some (.slice y.aM y.M.length y.cM) ∧ w'.cell? ⟨b, off + j * 6 + 4, none⟩ = some (.slice y.aA y.A.length y.cA) ∧ w'.cell? ⟨b, off + j * 6 + 5, none⟩ = some (.int .i64 y.h))) (by kernel_rfl) ⟨p0, p1, c0, c1, c2, c3, c4, c5, d0, d1, d2, d3, d4, d5⟩ (fun hHeld => ?_)
                refine take (i := 0) (d := some 52) (v := .int .i64 j) rfl (by kernel_rfl) (by kernel_rfl) (by kernel_rfl) (by kernel_rfl) (fun _ _ _ h => h) (Or.inl ⟨by rfl, by intro w hSw; go_simp⟩) hHeld ?_
                simp only [Act.put, List.setIfInBounds_toArray, List.set_cons_zero, List.set_cons_succ]
                refine take (i := 1) (d := some 53) (v := .bool true) rfl (by kernel_rfl) (by kernel_rfl) (by kernel_rfl) (by kernel_rfl) (fun _ _ _ h => h) (Or.inl ⟨by rfl, by intro w hSw; go_simp⟩) hHeld ?_
                simp only [Act.put, List.setIfInBounds_toArray, List.set_cons_zero, List.set_cons_succ]
                refine take (i := 2) (d := some 54) (v := .bool true) rfl (by kernel_rfl) (by kernel_rfl) (by kernel_rfl) (by kernel_rfl) (fun _ _ _ h => h) (Or.inl ⟨by rfl, by intro w hSw; go_simp⟩) hHeld ?_
                simp only [Act.put, List.setIfInBounds_toArray, List.set_cons_zero, List.set_cons_succ]
                refine take (i := 3) (d := some 55) (v := .pointer (some ⟨w.heap.size, 1, none⟩)) rfl (by kernel_rfl) (by kernel_rfl) (by kernel_rfl) (by kernel_rfl) (fun _ _ _ h => h) (Or.inl ⟨by rfl, by intro w hSw; go_simp⟩) hHeld ?_
                simp only [Act.put, List.setIfInBounds_toArray, List.set_cons_zero, List.set_cons_succ]
                refine take (i := 4) (d := some 56) (v := .slice (some ⟨b, off, none⟩) n cap) rfl (by kernel_rfl) (by kernel_rfl) (by kernel_rfl) (by kernel_rfl) (fun _ _ _ h => h) (Or.inl ⟨by rfl, by intro w hSw; obtain ⟨p0, p1, c0, c1, c2, c3, c4, c5, d0, d1, d2, d3, d4, d5⟩ := hSw; go_simp⟩) hHeld ?_
                simp only [Act.put, List.setIfInBounds_toArray, List.set_cons_zero, List.set_cons_succ]
                refine take (i := 5) (d := some 57) (v := .int .i64 j) rfl (by kernel_rfl) (by kernel_rfl) (by kernel_rfl) (by kernel_rfl) (fun _ _ _ h => h) (Or.inl ⟨by rfl, by intro w hSw; go_simp⟩) hHeld ?_
                simp only [Act.put, List.setIfInBounds_toArray, List.set_cons_zero, List.set_cons_succ]
                refine take (i := 6) (d := some 58) (v := .pointer (some ⟨b, off + j * 6, none⟩)) rfl (by kernel_rfl) (by kernel_rfl) (by kernel_rfl) (by kernel_rfl) (fun _ _ _ h => h) (Or.inl ⟨by rfl, by intro w hSw; go_simp⟩) hHeld ?_
                simp only [Act.put, List.setIfInBounds_toArray, List.set_cons_zero, List.set_cons_succ]
                refine take (i := 7) (d := some 59) (v := .agg #[.int .i64 y.ep, .int .i64 y.pr, .slice y.aV y.V.length y.cV, .slice y.aM y.M.length y.cM, .slice y.aA y.A.length y.cA, .int .i64 y.h]) rfl (by kernel_rfl) (by kernel_rfl) (by kernel_rfl) (by kernel_rfl) (fun _ _ _ h => h) (Or.inl ⟨by rfl, by intro w hSw; obtain ⟨p0, p1, c0, c1, c2, c3, c4, c5, d0, d1, d2, d3, d4, d5⟩ := hSw; go_simp⟩) hHeld ?_
                simp only [Act.put, List.setIfInBounds_toArray, List.set_cons_zero, List.set_cons_succ]
                refine take (i := 8) (d := some 60) (v := .pointer (some ⟨w.heap.size, 1, none⟩)) rfl (by kernel_rfl) (by kernel_rfl) (by kernel_rfl) (by kernel_rfl) (fun _ _ _ h => h) (Or.inl ⟨by rfl, by intro w hSw; go_simp⟩) hHeld ?_
                simp only [Act.put, List.setIfInBounds_toArray, List.set_cons_zero, List.set_cons_succ]
                refine take (i := 9) (d := some 61) (v := .slice (some ⟨b, off, none⟩) n cap) rfl (by kernel_rfl) (by kernel_rfl) (by kernel_rfl) (by kernel_rfl) (fun _ _ _ h => h) (Or.inl ⟨by rfl, by intro w hSw; obtain ⟨p0, p1, c0, c1, c2, c3, c4, c5, d0, d1, d2, d3, d4, d5⟩ := hSw; go_simp⟩) hHeld ?_
                simp only [Act.put, List.setIfInBounds_toArray, List.set_cons_zero, List.set_cons_succ]
                refine take (i := 10) (d := some 62) (v := .int .i64 i) rfl (by kernel_rfl) (by kernel_rfl) (by kernel_rfl) (by kernel_rfl) (fun _ _ _ h => h) (Or.inl ⟨by rfl, by intro w hSw; go_simp⟩) hHeld ?_
                simp only [Act.put, List.setIfInBounds_toArray, List.set_cons_zero, List.set_cons_succ]
                refine take (i := 11) (d := some 63) (v := .pointer (some ⟨b, off + i * 6, none⟩)) rfl (by kernel_rfl) (by kernel_rfl) (by kernel_rfl) (by kernel_rfl) (fun _ _ _ h => h) (Or.inl ⟨by rfl, by intro w hSw; go_simp⟩) hHeld ?_
                simp only [Act.put, List.setIfInBounds_toArray, List.set_cons_zero, List.set_cons_succ]
                refine take (i := 12) (d := some 64) (v := .agg #[.int .i64 x.ep, .int .i64 x.pr, .slice x.aV x.V.length x.cV, .slice x.aM x.M.length x.cM, .slice x.aA x.A.length x.cA, .int .i64 x.h]) rfl (by kernel_rfl) (by kernel_rfl) (by kernel_rfl) (by kernel_rfl) (fun _ _ _ h => h) (Or.inl ⟨by rfl, by intro w hSw; obtain ⟨p0, p1, c0, c1, c2, c3, c4, c5, d0, d1, d2, d3, d4, d5⟩ := hSw; go_simp⟩) hHeld ?_
                simp only [Act.put, List.setIfInBounds_toArray, List.set_cons_zero, List.set_cons_succ]
                refine wpAnyH_ready (rs := [13]) (by kernel_rfl) (by simp) (Rg.call2 (i := 13) rfl (by rfl) 84 (.tmp 59) (.tmp 64) 41 41 (by kernel_rfl) 65 (by kernel_rfl) _ _ (by kernel_rfl) (by kernel_rfl) (fun _ => rfl) (hcall _) ?_ AllReadyH.nil)
                rintro e1 w1 ⟨rfl, hb⟩
                refine ⟨_, rfl, ⟨(hb.cell (by exact bt)).trans p0, (hb.cell (by exact bt)).trans p1, (hb.cell (by exact bl)).trans c0, (hb.cell (by exact bl)).trans c1, (hb.cell (by exact bl)).trans c2, (hb.cell (by exact bl)).trans c3, (hb.cell (by exact bl)).trans c4, (hb.cell (by exact bl)).trans c5, (hb.cell (by exact bl)).trans d0, (hb.cell (by exact bl)).trans d1, (hb.cell (by exact bl)).trans d2, (hb.cell (by exact bl)).trans d3, (hb.cell (by exact bl)).trans d4, (hb.cell (by exact bl)).trans d5⟩, fun hHeld => ?_⟩
                simp only [Act.put, List.setIfInBounds_toArray, List.set_cons_zero, List.set_cons_succ]
                refine take (i := 14) (d := some 66) (v := .bool true) rfl (by kernel_rfl) (by kernel_rfl) (by kernel_rfl) (by kernel_rfl) (fun _ _ _ h => h) (Or.inl ⟨by rfl, by intro w hSw; go_simp⟩) hHeld ?_
                simp only [Act.put, List.setIfInBounds_toArray, List.set_cons_zero, List.set_cons_succ]
                refine take (i := 15) (d := some 67) (v := .bool true) rfl (by kernel_rfl) (by kernel_rfl) (by kernel_rfl) (by kernel_rfl) (fun _ _ _ h => h) (Or.inl ⟨by rfl, by intro w hSw; go_simp⟩) hHeld ?_
                simp only [Act.put, List.setIfInBounds_toArray, List.set_cons_zero, List.set_cons_succ]
                refine wpAnyH_done (by kernel_rfl) ?_ _
                replace kT := (hb.block _ bt).trans kT
                have hb0 := Rw.next ((Below.refl wr.heap.size wr).drew) hb
                replace hbel := Rw.next hbel hb0
                replace okx := okx.below hb0
                replace oky := oky.below hb0
                clear c0 c1 c2 c3 c4 c5 d0 d1 d2 d3 d4 d5 p0 p1
                have bl2 := Nat.lt_of_lt_of_le bl hb0.size
                have bt2 := Nat.lt_of_lt_of_le bt hb0.size
                clear hb hb0 hcall bl bt
                obtain ⟨p0, p1⟩ := Pm.two kT
                obtain ⟨c0, c1, c2, c3, c4, c5⟩ := ((hc i hlt).of hbel (At6.lt (hc i hlt))).six
                rw [HX.out] at c0 c1 c2 c3 c4 c5
                obtain ⟨d0, d1, d2, d3, d4, d5⟩ := ((hc j hjn).of hbel (At6.lt (hc j hjn))).six
                rw [HY.out] at d0 d1 d2 d3 d4 d5
                obtain ⟨w3, hw3⟩ : ∃ w3, w3 = w1 := ⟨_, rfl⟩
                subst hw3
                have bl := bl2
                have bt := bt2
                by_cases hk : SameKey y.said x.said
                · have hcall := sameS y x w3.drew (oky.below ((Below.refl _ _).drew)) (okx.below ((Below.refl _ _).drew)) ey ex true (by simp [hk])
                  have HKe : Hid (SameKey y.said x.said) := hk
                  clear hk
                  go_wp2
                  refine wp_region_held_drew (S := (fun w' => w'.cell? ⟨w.heap.size, 0, none⟩ = some (.int .i64 q) ∧ w'.cell? ⟨w.heap.size, 1, none⟩ = some (.slice (some ⟨b, off, none⟩) n cap) ∧ w'.cell? ⟨b, off + i * 6, none⟩ = some (.int .i64 x.ep) ∧ w'.cell? ⟨b, off + i * 6 + 1, none⟩ = some (.int .i64 x.pr) ∧ w'.cell? ⟨b, off + i * 6 + 2, none⟩ = some (.slice x.aV x.V.length x.cV) ∧ w'.cell? ⟨b, off + i * 6 + 3, none⟩ = some (.slice x.aM x.M.length x.cM) ∧ w'.cell? ⟨b, off + i * 6 + 4, none⟩ = some (.slice x.aA x.A.length x.cA) ∧ w'.cell? ⟨b, off + i * 6 + 5, none⟩ = some (.int .i64 x.h) ∧ w'.cell? ⟨b, off + j * 6, none⟩ = some (.int .i64 y.ep) ∧ w'.cell? ⟨b, off + j * 6 + 1, none⟩ = some (.int .i64 y.pr) ∧ w'.cell? ⟨b, off + j * 6 + 2, none⟩ = some (.slice y.aV y.V.length y.cV) ∧ w'.cell? ⟨b, off + j * 6 + 3, none⟩ = some (.slice y.aM y.M.length y.cM) ∧ w'.cell? ⟨b, off + j * 6 + 4, none⟩ = some (.slice y.aA y.A.length y.cA) ∧ w'.cell? ⟨b, off + j * 6 + 5, none⟩ = some (.int .i64 y.h))) (by kernel_rfl) ⟨p0, p1, c0, c1, c2, c3, c4, c5, d0, d1, d2, d3, d4, d5⟩ (fun hHeld => ?_)
                  refine take (i := 0) (d := some 70) (v := .pointer (some ⟨w.heap.size, 1, none⟩)) rfl (by kernel_rfl) (by kernel_rfl) (by kernel_rfl) (by kernel_rfl) (fun _ _ _ h => h) (Or.inl ⟨by rfl, by intro w hSw; go_simp⟩) hHeld ?_
                  simp only [Act.put, List.setIfInBounds_toArray, List.set_cons_zero, List.set_cons_succ]
                  refine take (i := 1) (d := some 71) (v := .slice (some ⟨b, off, none⟩) n cap) rfl (by kernel_rfl) (by kernel_rfl) (by kernel_rfl) (by kernel_rfl) (fun _ _ _ h => h) (Or.inl ⟨by rfl, by intro w hSw; obtain ⟨p0, p1, c0, c1, c2, c3, c4, c5, d0, d1, d2, d3, d4, d5⟩ := hSw; go_simp⟩) hHeld ?_
                  simp only [Act.put, List.setIfInBounds_toArray, List.set_cons_zero, List.set_cons_succ]
                  refine take (i := 2) (d := some 72) (v := .int .i64 j) rfl (by kernel_rfl) (by kernel_rfl) (by kernel_rfl) (by kernel_rfl) (fun _ _ _ h => h) (Or.inl ⟨by rfl, by intro w hSw; go_simp⟩) hHeld ?_
                  simp only [Act.put, List.setIfInBounds_toArray, List.set_cons_zero, List.set_cons_succ]
                  refine take (i := 3) (d := some 73) (v := .pointer (some ⟨b, off + j * 6, none⟩)) rfl (by kernel_rfl) (by kernel_rfl) (by kernel_rfl) (by kernel_rfl) (fun _ _ _ h => h) (Or.inl ⟨by rfl, by intro w hSw; go_simp⟩) hHeld ?_
                  simp only [Act.put, List.setIfInBounds_toArray, List.set_cons_zero, List.set_cons_succ]
                  refine take (i := 4) (d := some 74) (v := .agg #[.int .i64 y.ep, .int .i64 y.pr, .slice y.aV y.V.length y.cV, .slice y.aM y.M.length y.cM, .slice y.aA y.A.length y.cA, .int .i64 y.h]) rfl (by kernel_rfl) (by kernel_rfl) (by kernel_rfl) (by kernel_rfl) (fun _ _ _ h => h) (Or.inl ⟨by rfl, by intro w hSw; obtain ⟨p0, p1, c0, c1, c2, c3, c4, c5, d0, d1, d2, d3, d4, d5⟩ := hSw; go_simp⟩) hHeld ?_
                  simp only [Act.put, List.setIfInBounds_toArray, List.set_cons_zero, List.set_cons_succ]
                  refine take (i := 5) (d := some 75) (v := .pointer (some ⟨w.heap.size, 1, none⟩)) rfl (by kernel_rfl) (by kernel_rfl) (by kernel_rfl) (by kernel_rfl) (fun _ _ _ h => h) (Or.inl ⟨by rfl, by intro w hSw; go_simp⟩) hHeld ?_
                  simp only [Act.put, List.setIfInBounds_toArray, List.set_cons_zero, List.set_cons_succ]
                  refine take (i := 6) (d := some 76) (v := .slice (some ⟨b, off, none⟩) n cap) rfl (by kernel_rfl) (by kernel_rfl) (by kernel_rfl) (by kernel_rfl) (fun _ _ _ h => h) (Or.inl ⟨by rfl, by intro w hSw; obtain ⟨p0, p1, c0, c1, c2, c3, c4, c5, d0, d1, d2, d3, d4, d5⟩ := hSw; go_simp⟩) hHeld ?_
                  simp only [Act.put, List.setIfInBounds_toArray, List.set_cons_zero, List.set_cons_succ]
                  refine take (i := 7) (d := some 77) (v := .int .i64 i) rfl (by kernel_rfl) (by kernel_rfl) (by kernel_rfl) (by kernel_rfl) (fun _ _ _ h => h) (Or.inl ⟨by rfl, by intro w hSw; go_simp⟩) hHeld ?_
                  simp only [Act.put, List.setIfInBounds_toArray, List.set_cons_zero, List.set_cons_succ]
                  refine take (i := 8) (d := some 78) (v := .pointer (some ⟨b, off + i * 6, none⟩)) rfl (by kernel_rfl) (by kernel_rfl) (by kernel_rfl) (by kernel_rfl) (fun _ _ _ h => h) (Or.inl ⟨by rfl, by intro w hSw; go_simp⟩) hHeld ?_
                  simp only [Act.put, List.setIfInBounds_toArray, List.set_cons_zero, List.set_cons_succ]
                  refine take (i := 9) (d := some 79) (v := .agg #[.int .i64 x.ep, .int .i64 x.pr, .slice x.aV x.V.length x.cV, .slice x.aM x.M.length x.cM, .slice x.aA x.A.length x.cA, .int .i64 x.h]) rfl (by kernel_rfl) (by kernel_rfl) (by kernel_rfl) (by kernel_rfl) (fun _ _ _ h => h) (Or.inl ⟨by rfl, by intro w hSw; obtain ⟨p0, p1, c0, c1, c2, c3, c4, c5, d0, d1, d2, d3, d4, d5⟩ := hSw; go_simp⟩) hHeld ?_
                  simp only [Act.put, List.setIfInBounds_toArray, List.set_cons_zero, List.set_cons_succ]
                  refine wpAnyH_ready (rs := [10]) (by kernel_rfl) (by simp) (Rg.call2 (i := 10) rfl (by rfl) 82 (.tmp 74) (.tmp 79) 41 41 (by kernel_rfl) 80 (by kernel_rfl) _ _ (by kernel_rfl) (by kernel_rfl) (fun _ => rfl) (hcall) ?_ AllReadyH.nil)
                  rintro e1 w1 ⟨rfl, hb⟩
                  refine ⟨_, rfl, ⟨(hb.cell (by exact bt)).trans p0, (hb.cell (by exact bt)).trans p1, (hb.cell (by exact bl)).trans c0, (hb.cell (by exact bl)).trans c1, (hb.cell (by exact bl)).trans c2, (hb.cell (by exact bl)).trans c3, (hb.cell (by exact bl)).trans c4, (hb.cell (by exact bl)).trans c5, (hb.cell (by exact bl)).trans d0, (hb.cell (by exact bl)).trans d1, (hb.cell (by exact bl)).trans d2, (hb.cell (by exact bl)).trans d3, (hb.cell (by exact bl)).trans d4, (hb.cell (by exact bl)).trans d5⟩, fun hHeld => ?_⟩
                  simp only [Act.put, List.setIfInBounds_toArray, List.set_cons_zero, List.set_cons_succ]
                  refine wpAnyH_done (by kernel_rfl) ?_ _
                  go_wp2
                  go_ret
                  exact ⟨ret_bool (no (¬ SameKey y.said x.said) (fun t hh => t.2.2.2.once j i (by have := HJ.out; omega) (by have := HN.out; omega) (by rw [HX.out, HY.out]; exact (said_same.1 hh).1) (by rw [HX.out, HY.out]; exact (said_same.1 hh).2)) (fun t => t HKe.out)), Rw.next (by repeat (first | exact hbel | apply Below.drew)) hb⟩
                · have hcall := sameS y x w3.drew (oky.below ((Below.refl _ _).drew)) (okx.below ((Below.refl _ _).drew)) ey ex false (by simp [hk])
                  have HKe : Hid (¬ SameKey y.said x.said) := hk
                  clear hk
                  go_wp2
                  refine wp_region_held_drew (S := (fun w' => w'.cell? ⟨w.heap.size, 0, none⟩ = some (.int .i64 q) ∧ w'.cell? ⟨w.heap.size, 1, none⟩ = some (.slice (some ⟨b, off, none⟩) n cap) ∧ w'.cell? ⟨b, off + i * 6, none⟩ = some (.int .i64 x.ep) ∧ w'.cell? ⟨b, off + i * 6 + 1, none⟩ = some (.int .i64 x.pr) ∧ w'.cell? ⟨b, off + i * 6 + 2, none⟩ = some (.slice x.aV x.V.length x.cV) ∧ w'.cell? ⟨b, off + i * 6 + 3, none⟩ = some (.slice x.aM x.M.length x.cM) ∧ w'.cell? ⟨b, off + i * 6 + 4, none⟩ = some (.slice x.aA x.A.length x.cA) ∧ w'.cell? ⟨b, off + i * 6 + 5, none⟩ = some (.int .i64 x.h) ∧ w'.cell? ⟨b, off + j * 6, none⟩ = some (.int .i64 y.ep) ∧ w'.cell? ⟨b, off + j * 6 + 1, none⟩ = some (.int .i64 y.pr) ∧ w'.cell? ⟨b, off + j * 6 + 2, none⟩ = some (.slice y.aV y.V.length y.cV) ∧ w'.cell? ⟨b, off + j * 6 + 3, none⟩ = some (.slice y.aM y.M.length y.cM) ∧ w'.cell? ⟨b, off + j * 6 + 4, none⟩ = some (.slice y.aA y.A.length y.cA) ∧ w'.cell? ⟨b, off + j * 6 + 5, none⟩ = some (.int .i64 y.h))) (by kernel_rfl) ⟨p0, p1, c0, c1, c2, c3, c4, c5, d0, d1, d2, d3, d4, d5⟩ (fun hHeld => ?_)
                  refine take (i := 0) (d := some 70) (v := .pointer (some ⟨w.heap.size, 1, none⟩)) rfl (by kernel_rfl) (by kernel_rfl) (by kernel_rfl) (by kernel_rfl) (fun _ _ _ h => h) (Or.inl ⟨by rfl, by intro w hSw; go_simp⟩) hHeld ?_
                  simp only [Act.put, List.setIfInBounds_toArray, List.set_cons_zero, List.set_cons_succ]
                  refine take (i := 1) (d := some 71) (v := .slice (some ⟨b, off, none⟩) n cap) rfl (by kernel_rfl) (by kernel_rfl) (by kernel_rfl) (by kernel_rfl) (fun _ _ _ h => h) (Or.inl ⟨by rfl, by intro w hSw; obtain ⟨p0, p1, c0, c1, c2, c3, c4, c5, d0, d1, d2, d3, d4, d5⟩ := hSw; go_simp⟩) hHeld ?_
                  simp only [Act.put, List.setIfInBounds_toArray, List.set_cons_zero, List.set_cons_succ]
                  refine take (i := 2) (d := some 72) (v := .int .i64 j) rfl (by kernel_rfl) (by kernel_rfl) (by kernel_rfl) (by kernel_rfl) (fun _ _ _ h => h) (Or.inl ⟨by rfl, by intro w hSw; go_simp⟩) hHeld ?_
                  simp only [Act.put, List.setIfInBounds_toArray, List.set_cons_zero, List.set_cons_succ]
                  refine take (i := 3) (d := some 73) (v := .pointer (some ⟨b, off + j * 6, none⟩)) rfl (by kernel_rfl) (by kernel_rfl) (by kernel_rfl) (by kernel_rfl) (fun _ _ _ h => h) (Or.inl ⟨by rfl, by intro w hSw; go_simp⟩) hHeld ?_
                  simp only [Act.put, List.setIfInBounds_toArray, List.set_cons_zero, List.set_cons_succ]
                  refine take (i := 4) (d := some 74) (v := .agg #[.int .i64 y.ep, .int .i64 y.pr, .slice y.aV y.V.length y.cV, .slice y.aM y.M.length y.cM, .slice y.aA y.A.length y.cA, .int .i64 y.h]) rfl (by kernel_rfl) (by kernel_rfl) (by kernel_rfl) (by kernel_rfl) (fun _ _ _ h => h) (Or.inl ⟨by rfl, by intro w hSw; obtain ⟨p0, p1, c0, c1, c2, c3, c4, c5, d0, d1, d2, d3, d4, d5⟩ := hSw; go_simp⟩) hHeld ?_
                  simp only [Act.put, List.setIfInBounds_toArray, List.set_cons_zero, List.set_cons_succ]
                  refine take (i := 5) (d := some 75) (v := .pointer (some ⟨w.heap.size, 1, none⟩)) rfl (by kernel_rfl) (by kernel_rfl) (by kernel_rfl) (by kernel_rfl) (fun _ _ _ h => h) (Or.inl ⟨by rfl, by intro w hSw; go_simp⟩) hHeld ?_
                  simp only [Act.put, List.setIfInBounds_toArray, List.set_cons_zero, List.set_cons_succ]
                  refine take (i := 6) (d := some 76) (v := .slice (some ⟨b, off, none⟩) n cap) rfl (by kernel_rfl) (by kernel_rfl) (by kernel_rfl) (by kernel_rfl) (fun _ _ _ h => h) (Or.inl ⟨by rfl, by intro w hSw; obtain ⟨p0, p1, c0, c1, c2, c3, c4, c5, d0, d1, d2, d3, d4, d5⟩ := hSw; go_simp⟩) hHeld ?_
                  simp only [Act.put, List.setIfInBounds_toArray, List.set_cons_zero, List.set_cons_succ]
                  refine take (i := 7) (d := some 77) (v := .int .i64 i) rfl (by kernel_rfl) (by kernel_rfl) (by kernel_rfl) (by kernel_rfl) (fun _ _ _ h => h) (Or.inl ⟨by rfl, by intro w hSw; go_simp⟩) hHeld ?_
                  simp only [Act.put, List.setIfInBounds_toArray, List.set_cons_zero, List.set_cons_succ]
                  refine take (i := 8) (d := some 78) (v := .pointer (some ⟨b, off + i * 6, none⟩)) rfl (by kernel_rfl) (by kernel_rfl) (by kernel_rfl) (by kernel_rfl) (fun _ _ _ h => h) (Or.inl ⟨by rfl, by intro w hSw; go_simp⟩) hHeld ?_
                  simp only [Act.put, List.setIfInBounds_toArray, List.set_cons_zero, List.set_cons_succ]
                  refine take (i := 9) (d := some 79) (v := .agg #[.int .i64 x.ep, .int .i64 x.pr, .slice x.aV x.V.length x.cV, .slice x.aM x.M.length x.cM, .slice x.aA x.A.length x.cA, .int .i64 x.h]) rfl (by kernel_rfl) (by kernel_rfl) (by kernel_rfl) (by kernel_rfl) (fun _ _ _ h => h) (Or.inl ⟨by rfl, by intro w hSw; obtain ⟨p0, p1, c0, c1, c2, c3, c4, c5, d0, d1, d2, d3, d4, d5⟩ := hSw; go_simp⟩) hHeld ?_
                  simp only [Act.put, List.setIfInBounds_toArray, List.set_cons_zero, List.set_cons_succ]
                  refine wpAnyH_ready (rs := [10]) (by kernel_rfl) (by simp) (Rg.call2 (i := 10) rfl (by rfl) 82 (.tmp 74) (.tmp 79) 41 41 (by kernel_rfl) 80 (by kernel_rfl) _ _ (by kernel_rfl) (by kernel_rfl) (fun _ => rfl) (hcall) ?_ AllReadyH.nil)
                  rintro e1 w1 ⟨rfl, hb⟩
                  refine ⟨_, rfl, ⟨(hb.cell (by exact bt)).trans p0, (hb.cell (by exact bt)).trans p1, (hb.cell (by exact bl)).trans c0, (hb.cell (by exact bl)).trans c1, (hb.cell (by exact bl)).trans c2, (hb.cell (by exact bl)).trans c3, (hb.cell (by exact bl)).trans c4, (hb.cell (by exact bl)).trans c5, (hb.cell (by exact bl)).trans d0, (hb.cell (by exact bl)).trans d1, (hb.cell (by exact bl)).trans d2, (hb.cell (by exact bl)).trans d3, (hb.cell (by exact bl)).trans d4, (hb.cell (by exact bl)).trans d5⟩, fun hHeld => ?_⟩
                  simp only [Act.put, List.setIfInBounds_toArray, List.set_cons_zero, List.set_cons_succ]
                  refine wpAnyH_done (by kernel_rfl) ?_ _
                  replace kT := (hb.block _ bt).trans kT
                  go_wp2
                  go_roundw
                  case rel => exact ⟨(j : Int) - 1, j, by omega, by have := HJ.out; omega, by first | rfl | go_num, Rw.next (by repeat (first | exact hbel | apply Below.drew)) hb, kT, fun m h1 h2 => by
                    by_cases e1 : m = j
                    · subst e1; rw [HY.out]; exact fun t => HKe.out (said_same.2 t)
                    · exact HI.out m (by have := HJ.out; omega) h2⟩
                  case measure => simp [intOf]
    · obtain rfl : i = n := by omega
      go_wp2
      go_ret
      refine ⟨ret_bool ?_, hbel⟩
      have := HN.out
      exact (HR.out.2 ⟨HQ.out.1, HQ.out.2.1, HQ.out.2.2, by rw [← this]; exact HU.out⟩).symm

end Go.Proofs.Ytcbgnfjnjfaacaa.Ka
namespace Go.Proofs.Ytcbgnfjnjfaacaa.Cp
set_option maxRecDepth 8000
set_option linter.unusedSimpArgs false
set_option linter.unusedVariables false
open Go Go.RowKit
open Num Pl Ea Em Ka

/-- What TableKeep answers. -/
def KeepA (q : Int) (L : List En) (ep : Int) (q' : Int) (L' : List En) (m : Int) : Prop :=
  (TabP q L ∧ q' = q ∧ L' = sel (fun k => decide ((L.getD k x0).1 = ep)) L L.length ∧ m = (L.length : Int) - (L'.length : Int)) ∨ (¬ TabP q L ∧ q' = 0 ∧ L' = [] ∧ m = -1)
theorem keep_some (q : Int) (L : List En) (ep : Int) : ∃ q' L' m, KeepA q L ep q' L' m := by
  rcases Classical.em (TabP q L) with h | h
  · exact ⟨_, _, _, .inl ⟨h, rfl, rfl, rfl⟩⟩
  · exact ⟨_, _, _, .inr ⟨h, rfl, rfl, rfl⟩⟩
theorem tab_len {q : Int} {Q : List Ent} (t : TabP q (Q.map Ent.said)) : Q.length ≤ 400 := by
  have t1 := t.len
  have t2 := t.q1
  simp only [List.length_map] at t1
  omega

theorem keep_len {q : Int} {L : List En} {ep : Int} {q' : Int} {L' : List En} {m : Int} (h : KeepA q L ep q' L' m) : L'.length ≤ 400 := by
  rcases h with ⟨t, _, rfl, _⟩ | ⟨_, _, rfl, _⟩
  · have := sel_len (fun k => decide ((L.getD k x0).1 = ep)) L L.length
    have := t.len
    have := t.q1
    omega
  · simp

theorem tell90 (g0 : Nat) (x : Ent) (ep : Int) (w : World) (h0 : w.cell? ⟨g0, 0, none⟩ = some (.int .i64 ep)) :
    Calls Try.prog 90 #[.agg #[.int .i64 x.ep, .int .i64 x.pr, .slice x.aV x.V.length x.cV, .slice x.aM x.M.length x.cM, .slice x.aA x.A.length x.cA, .int .i64 x.h], .pointer (some ⟨g0, 0, none⟩)] w fun e w' => e = .returned (.bool (decide (x.ep = ep))) ∧ Below w.heap.size w w' := by
  have B1 := below_alloc1 w (.cells #[.int .i64 x.ep, .int .i64 x.pr, .slice x.aV x.V.length x.cV, .slice x.aM x.M.length x.cM, .slice x.aA x.A.length x.cA, .int .i64 x.h] 41)
  have q0 := (B1.cell (World.block_lt_of_cell? _ _ h0)).trans h0
  by_cases he : x.ep = ep
  · have he' : (x.ep == ep) = true := by simp [he]
    rw [decide_eq_true he]
    clear he
    go_enter Try.func90, Try.ntmps90
    go_wp2
    go_ret
    exact ⟨ret_bool (by simp), B1⟩
  · have he' : (x.ep == ep) = false := by simpa using he
    rw [decide_eq_false he]
    go_enter Try.func90, Try.ntmps90
    go_wp2
    go_ret
    exact ⟨ret_bool (by simp), B1⟩

set_option maxHeartbeats 4000000 in
theorem keepI (q ep : Int) (a : Option Addr) (b off cap : Nat) (Q : List Ent) (w : World) (h : Rd w a b off Q) (q' : Int) (L' : List En) (m : Int) (hr : KeepA q (Q.map Ent.said) ep q' L' m) :
    Calls Try.prog 25 #[.agg #[.int .i64 q, .slice a Q.length cap], .int .i64 ep] w (ResT w q' L' m) := by
  obtain ⟨W1, hW1⟩ : ∃ W1, W1 = ((w.alloc (.cells #[.int .i64 q, .slice a Q.length cap] 38)).alloc (.cells #[.int .i64 ep] 3)).alloc (.cells #[.int .i64 0, .slice none 0 0] 38) := ⟨_, rfl⟩
  have B1 : Below w.heap.size w W1 := by subst hW1; exact Rw.next (Rw.next (below_alloc1 _ _) (below_alloc1 _ _)) (below_alloc1 _ _)
  have k0 : W1.heap[w.heap.size]? = some (.cells #[.int .i64 q, .slice a Q.length cap] 38 (0, 0)) := by subst hW1; rw [at_old (by simp <;> omega), at_old (by simp), at_new rfl]
  have k1 : W1.heap[w.heap.size + 1]? = some (.cells #[.int .i64 ep] 3 (0, 0)) := by subst hW1; rw [at_old (by simp), at_new (by simp)]
  have k2 : W1.heap[w.heap.size + 1 + 1]? = some (.cells #[.int .i64 0, .slice none 0 0] 38 (0, 0)) := by subst hW1; exact at_new (by simp)
  replace h := h.below B1
  obtain ⟨R, hR⟩ := em_bool (TabP q (Q.map Ent.said))
  have ht := fun W hW => tabI q a b off cap Q W hW R hR
  cases R
  · rcases hr with ⟨h1, _⟩ | ⟨_, rfl, rfl, rfl⟩
    · exact absurd (hR.2 h1) (by decide)
    · go_enter Try.func25, Try.ntmps25
      go_wp2_with (go_at_call 26; rw [← hW1]; clear hW1; refine (ht _ h).mono ?_; rintro x wa ⟨rfl, hb⟩; replace k2 := (hb.block _ (blk_lt k2)).trans k2; replace B1 := Rw.next B1 hb; clear hb; obtain ⟨r0, r1⟩ := Pm.two k2; have fR := Bl.free k2)
      refine bodyPost_ret (v := .tuple #[.agg #[.int .i64 0, .slice none 0 0], .int .i64 (-1)]) (by simp [results, Try.results25, go_sem, r0, r1]) rfl ⟨_, [], rfl, OT.nil _ _, rfl, ?_⟩
      repeat (first | with_reducible exact B1 | refine Pm.bset ?_ (by omega))
  rcases hr with ⟨ht1, rfl, rfl, hm⟩ | ⟨h1, _⟩
  rotate_left
  · exact absurd (hR.1 rfl) h1
  have h4 := tab_len ht1
  simp only [List.length_map] at hm
  simp only [List.length_map]
  have HMi : Hid (m = (Q.length : Int) - ((sel (fun k => decide (((Q.map Ent.said).getD k x0).1 = ep)) (Q.map Ent.said) Q.length).length : Int)) := hm
  clear hR ht1 hm
  go_enter Try.func25, Try.ntmps25
  go_wp2_with (first
    | (go_at_call 26; rw [← hW1]; clear hW1; refine (ht _ h).mono ?_; rintro x wa ⟨rfl, hb⟩; replace k0 := (hb.block _ (blk_lt k0)).trans k0; replace k1 := (hb.block _ (blk_lt k1)).trans k1; replace k2 := (hb.block _ (blk_lt k2)).trans k2; replace h := h.below hb; replace B1 := Rw.next B1 hb; clear hb ht; obtain ⟨p0, p1⟩ := Pm.two k0; have e1 := Hh.one k1)
    | (go_at_call 86; refine (sieve90 q' _ _ _ _ _ Q (fun k => decide (((Q.map Ent.said).getD k x0).1 = ep)) _ h h4 (fun k hk W hW => by have := tell90 (w.heap.size + 1) (Q.getD k e0) ep W ((hW.cell (World.block_lt_of_cell? _ _ e1)).trans e1); simp only [said_getD]; exact this) m HMi.out).mono ?_; rintro x wb ⟨v, F, rfl, hot, hF, hb⟩; have lo := blk_lt k2; replace k2 := (hb.block _ (blk_lt k2)).trans k2; obtain ⟨va, vn, vc, rfl⟩ := hot.slice; obtain ⟨r0, r1⟩ := Pm.two k2; have fR := Bl.free k2))
  refine bodyPost_ret (v := .tuple #[.agg #[.int .i64 q', .slice va vn vc], .int .i64 m]) (by simp [results, Try.results25, go_sem, r0, r1]) rfl ⟨_, F, rfl, (hot.keep (fun x _ hx => ?_)).mono (by omega), hF, ?_⟩
  · exact blk_other (blk_other rfl (by omega)) (by omega)
  · exact Pm.bset (Pm.bset (Rw.next B1 hb) (by omega)) (by omega)

set_option maxHeartbeats 16000000 in
theorem keepS (q ep : Int) (a : Option Addr) (b off cap : Nat) (Q : List Ent) (w : World) (h : Rd w a b off Q) (q' : Int) (L' : List En) (m : Int) (hr : KeepA q (Q.map Ent.said) ep q' L' m) :
    Calls Try.prog 45 #[.agg #[.int .i64 q, .slice a Q.length cap], .int .i64 ep] w (ResT w q' L' m) := by
  have HD := h
  obtain ⟨W1, hW1⟩ : ∃ W1, W1 = (w.alloc (.cells #[.int .i64 q, .slice a Q.length cap] 38)).alloc (.cells #[.int .i64 0, .slice none 0 0] 38) := ⟨_, rfl⟩
  have B1 : Below w.heap.size w W1 := by subst hW1; exact Rw.next (below_alloc1 _ _) (below_alloc1 _ _)
  have kT : W1.heap[w.heap.size]? = some (.cells #[.int .i64 q, .slice a Q.length cap] 38 (0, 0)) := by subst hW1; rw [at_old (by simp), at_new rfl]
  have kR : W1.heap[w.heap.size + 1]? = some (.cells #[.int .i64 0, .slice none 0 0] 38 (0, 0)) := by subst hW1; exact at_new (by simp)
  replace h := h.below B1
  obtain ⟨R, hR⟩ := em_bool (TabP q (Q.map Ent.said))
  have ht := fun W hW => tabS q a b off cap Q W hW R hR
  cases R
  · rcases hr with ⟨h1, _⟩ | ⟨_, rfl, rfl, rfl⟩
    · exact absurd (hR.2 h1) (by decide)
    · go_enter Try.func45, Try.ntmps45
      go_wp2_with (go_at_call 39; rw [← hW1]; clear hW1; refine (ht _ h).mono ?_; rintro x wa ⟨rfl, hb⟩; replace kR := (hb.block _ (blk_lt kR)).trans kR; replace B1 := Rw.next B1 hb; clear hb; obtain ⟨r0, r1⟩ := Pm.two kR; have fR := Bl.free kR)
      refine bodyPost_ret (v := .tuple #[.agg #[.int .i64 0, .slice none 0 0], .int .i64 (-1)]) (by simp [results, Try.results45, go_sem, r0, r1]) rfl ⟨_, [], rfl, OT.nil _ _, rfl, ?_⟩
      repeat (first | with_reducible exact B1 | refine Pm.bset ?_ (by omega))
  rcases hr with ⟨ht1, hqq, rfl, hm⟩ | ⟨h1, _⟩
  rotate_left
  · exact absurd (hR.1 rfl) h1
  subst hqq
  have h4 := tab_len ht1
  simp only [List.length_map] at hm
  simp only [List.length_map]
  clear hR ht1
  obtain ⟨p, hp⟩ : ∃ p : Nat → Bool, p = (fun k => decide (((Q.map Ent.said).getD k x0).1 = ep)) := ⟨_, rfl⟩
  rw [← hp] at hm ⊢
  have HPd : Hid (∀ k, p k = decide ((Q.getD k e0).ep = ep)) := fun k => by rw [hp]; simp only [said_getD]; rfl
  clear hp
  obtain ⟨q, hqe⟩ : ∃ q, q = q' := ⟨_, rfl⟩
  subst hqe
  obtain ⟨n, hn⟩ : ∃ n, n = Q.length := ⟨_, rfl⟩
  rw [← hn] at hW1 kT ht h4 hm ⊢
  have HN : Hid (n = Q.length) := hn
  have HM : Hid (m = (n : Int) - ((sel p (Q.map Ent.said) n).length : Int)) := hm
  clear hn hm
  go_enter Try.func45, Try.ntmps45
  go_wp2_with (go_at_call 39; rw [← hW1]; clear hW1; refine (ht _ h).mono ?_; rintro x wa ⟨rfl, hb⟩; replace kT := (hb.block _ (blk_lt kT)).trans kT; replace kR := (hb.block _ (blk_lt kR)).trans kR; replace B1 := Rw.next B1 hb; clear hb ht h; obtain ⟨p0, p1⟩ := Pm.two kT; have lT := blk_lt kT)
  obtain ⟨ob, hob⟩ : ∃ ob, ob = wa.heap.size := ⟨_, rfl⟩
  have lob : w.heap.size + 1 < ob := by rw [hob]; exact blk_lt kR
  obtain ⟨W2, hW2⟩ : ∃ W2, W2 = wa.alloc (.cells #[.int .i64 q, .slice none 0 0] 38) := ⟨_, rfl⟩
  have kO : W2.heap[ob]? = some (.cells #[.int .i64 q, .slice none 0 0] 38 (0, 0)) := by subst hW2; exact at_new hob
  have hb : Below wa.heap.size wa W2 := by subst hW2; exact below_alloc1 _ _
  replace kT := (hb.block _ (blk_lt kT)).trans kT
  replace kR := (hb.block _ (blk_lt kR)).trans kR
  replace B1 := Rw.next B1 hb
  clear hb p0 p1 lT
  obtain ⟨B, hB⟩ : ∃ B, B = ob + 1 := ⟨_, rfl⟩
  have zB : B ≤ W2.heap.size := by have := blk_lt kO; omega
  have hBo : ob < B := by omega
  have hwo : w.heap.size ≤ ob := by omega
  clear hB
  rw [← hW2]
  rw [← hob]
  clear hW2 hob
  obtain ⟨hh, hc, ho, hs⟩ := HD
  rw [← HN.out] at hh hc ho hs
  go_loopw [18] (fun u wr => ∃ (i : Nat) (v : Value) (F : List Ent), i ≤ n ∧ u = .int .i64 i ∧ Below w.heap.size w wr ∧ wr.heap[w.heap.size]? = some (.cells #[.int .i64 q, .slice a n cap] 38 (0, 0)) ∧ wr.heap[w.heap.size + 1]? = some (.cells #[.int .i64 0, .slice none 0 0] 38 (0, 0)) ∧ wr.heap[ob]? = some (.cells #[.int .i64 q, v] 38 (0, 0)) ∧ OT wr B v F ∧ B ≤ wr.heap.size ∧ F.map Ent.said = sel p (Q.map Ent.said) i) (fun u _ => n - (intOf u).toNat)
  case atStart => exact ⟨0, .slice none 0 0, [], Nat.zero_le _, rfl, B1, kT, kR, kO, OT.nil _ _, zB, rfl⟩
  case round =>
    clear B1 kT kR kO zB
    obtain ⟨i, v, F, hi, rfl, B1, kT, kR, kO, hot, hBs, hF⟩ := hrel
    have HF : Hid (F.map Ent.said = sel p (Q.map Ent.said) i) := hF
    have hFl : F.length ≤ 100000 := by
      have e1 := congrArg List.length hF
      have e2 := sel_len p (Q.map Ent.said) i
      simp only [List.length_map] at e1
      omega
    clear hF
    by_cases hlt : i < n
    · obtain rfl := hh (by omega)
      have hnz : (i : Int) < (n : Int) := by omega
      have lb : b < w.heap.size := At6.lt (hc i hlt)
      obtain ⟨c0, c1, c2, c3, c4, c5⟩ := ((hc i hlt).of B1 lb).six
      have ok := (ho i hlt).of B1 (Nat.le_refl _)
      obtain ⟨x, hx⟩ : ∃ x, x = Q.getD i e0 := ⟨_, rfl⟩
      have hpx := HPd.out i
      rw [← hx] at c0 c1 c2 c3 c4 c5 ok hpx
      have HX : Hid (Q.getD i e0 = x) := hx.symm
      clear hx hc ho hh
      obtain ⟨p0, p1⟩ := Pm.two kT
      have sT := blk_lt kT
      have sR := blk_lt kR
      by_cases he : x.ep = ep
      · have he' : (x.ep == ep) = true := by simp [he]
        have HP : Hid (p i = true) := by rw [hpx]; exact decide_eq_true he
        clear hpx he
        go_wp2
        have hcp := fun W (ok : Ent.Ok W x) => copyS x W ok
        simp only [ent_vals x] at hcp
        have hSt : ∀ w', Stab wr ob v w' → w'.cell? ⟨w.heap.size, 0, none⟩ = some (.int .i64 q) ∧ w'.cell? ⟨w.heap.size, 1, none⟩ = some (.slice (some ⟨b, off, none⟩) n cap) ∧ w'.cell? ⟨b, off + i * 6, none⟩ = some (.int .i64 x.ep) ∧ w'.cell? ⟨b, off + i * 6 + 1, none⟩ = some (.int .i64 x.pr) ∧ w'.cell? ⟨b, off + i * 6 + 2, none⟩ = some (.slice x.aV x.V.length x.cV) ∧ w'.cell? ⟨b, off + i * 6 + 3, none⟩ = some (.slice x.aM x.M.length x.cM) ∧ w'.cell? ⟨b, off + i * 6 + 4, none⟩ = some (.slice x.aA x.A.length x.cA) ∧ w'.cell? ⟨b, off + i * 6 + 5, none⟩ = some (.int .i64 x.h) := by
          intro w' hst
          have hkb := hst.block b (by omega) (by omega) (fun e => by have := (hot.row_lt e.symm).1; omega)
          have hcb : ∀ j, w'.cell? ⟨b, j, none⟩ = wr.cell? ⟨b, j, none⟩ := fun j => by simp only [World.cell?, hkb]
          have hkt := Pm.two ((hst.block w.heap.size sT (by omega) (fun e => by have := (hot.row_lt e.symm).1; omega)).trans kT)
          exact ⟨hkt.1, hkt.2, (hcb _).trans c0, (hcb _).trans c1, (hcb _).trans c2, (hcb _).trans c3, (hcb _).trans c4, (hcb _).trans c5⟩
        clear c0 c1 c2 c3 c4 c5 p0 p1
        refine wp_region_held_drew (S := Stab wr (ob) v) (by kernel_rfl) (Stab.refl _ _ _) (fun hHeld => ?_)
        refine Pq.take (i := 0) (d := some 29) (v := .pointer (some ⟨ob, 1, none⟩)) rfl (by kernel_rfl) (by kernel_rfl) (by kernel_rfl) (by kernel_rfl) (fun _ _ _ h => h) (Or.inl ⟨by rfl, by intro w hSw; go_simp⟩) hHeld ?_
        simp only [Act.put, List.setIfInBounds_toArray, List.set_cons_zero, List.set_cons_succ]
        refine Pq.take (i := 2) (d := some 31) (v := .pointer (some ⟨w.heap.size, 1, none⟩)) rfl (by kernel_rfl) (by kernel_rfl) (by kernel_rfl) (by kernel_rfl) (fun _ _ _ h => h) (Or.inl ⟨by rfl, by intro w hSw; go_simp⟩) hHeld ?_
        simp only [Act.put, List.setIfInBounds_toArray, List.set_cons_zero, List.set_cons_succ]
        refine Pq.take (i := 3) (d := some 32) (v := .slice (some ⟨b, off, none⟩) n cap) rfl (by kernel_rfl) (by kernel_rfl) (by kernel_rfl) (by kernel_rfl) (fun _ _ _ h => h) (Or.inl ⟨by rfl, by intro w hSw; obtain ⟨u0, u1, s0, s1, s2, s3, s4, s5⟩ := hSt w hSw; go_simp⟩) hHeld ?_
        simp only [Act.put, List.setIfInBounds_toArray, List.set_cons_zero, List.set_cons_succ]
        refine Pq.take (i := 4) (d := some 33) (v := .int .i64 i) rfl (by kernel_rfl) (by kernel_rfl) (by kernel_rfl) (by kernel_rfl) (fun _ _ _ h => h) (Or.inl ⟨by rfl, by intro w hSw; go_simp⟩) hHeld ?_
        simp only [Act.put, List.setIfInBounds_toArray, List.set_cons_zero, List.set_cons_succ]
        refine Pq.take (i := 5) (d := some 34) (v := .pointer (some ⟨b, off + i * 6, none⟩)) rfl (by kernel_rfl) (by kernel_rfl) (by kernel_rfl) (by kernel_rfl) (fun _ _ _ h => h) (Or.inl ⟨by rfl, by intro w hSw; go_simp⟩) hHeld ?_
        simp only [Act.put, List.setIfInBounds_toArray, List.set_cons_zero, List.set_cons_succ]
        refine Pq.take (i := 6) (d := some 35) (v := .agg #[.int .i64 x.ep, .int .i64 x.pr, .slice x.aV x.V.length x.cV, .slice x.aM x.M.length x.cM, .slice x.aA x.A.length x.cA, .int .i64 x.h]) rfl (by kernel_rfl) (by kernel_rfl) (by kernel_rfl) (by kernel_rfl) (fun _ _ _ h => h) (Or.inl ⟨by rfl, by intro w hSw; obtain ⟨u0, u1, s0, s1, s2, s3, s4, s5⟩ := hSt w hSw; go_simp⟩) hHeld ?_
        simp only [Act.put, List.setIfInBounds_toArray, List.set_cons_zero, List.set_cons_succ]
        have st : Stab wr (ob) v wr.drew := Stab.refl _ _ _
        have hot0 : OT wr.drew B v F := hot.below ((Below.refl _ _).drew)
        have kO0 : wr.drew.heap[ob]? = some (.cells #[.int .i64 q, v] 38 (0, 0)) := kO
        have ok0 := ok.below ((Below.refl wr.heap.size wr).drew)
        have B2 := Rw.next B1 ((Below.refl wr.heap.size wr).drew)
        have sW : wr.drew.heap.size = wr.heap.size := rfl
        generalize wr.drew = W at *
        refine wpAnyH_ready (rs := [1, 7]) (by kernel_rfl) (by simp) (Yh.readyRun (i := 1) rfl (by kernel_rfl) (some 30) (by kernel_rfl) (v := v) (w' := W) (by obtain ⟨o0, o1⟩ := Pm.two kO0; go_simp) st (fun hHeld => ?_) (Rg.call1 (i := 7) rfl (by rfl) 83 (.tmp 35) 41 (by kernel_rfl) 36 (by kernel_rfl) (.agg #[.int .i64 x.ep, .int .i64 x.pr, .slice x.aV x.V.length x.cV, .slice x.aM x.M.length x.cM, .slice x.aA x.A.length x.cA, .int .i64 x.h]) (by kernel_rfl) (fun _ => rfl) (hcp _ ok0) ?_ AllReadyH.nil))
        · simp only [Act.put, List.setIfInBounds_toArray, List.set_cons_zero, List.set_cons_succ]
          refine wpAnyH_ready (rs := [7]) (by kernel_rfl) (by simp) (Rg.call1 (i := 7) rfl (by rfl) 83 (.tmp 35) 41 (by kernel_rfl) 36 (by kernel_rfl) (.agg #[.int .i64 x.ep, .int .i64 x.pr, .slice x.aV x.V.length x.cV, .slice x.aM x.M.length x.cM, .slice x.aA x.A.length x.cA, .int .i64 x.h]) (by kernel_rfl) (fun _ => rfl) (hcp _ ok0) ?_ AllReadyH.nil)
          rintro e1 Wc ⟨f, rfl, sf, hf, hb⟩
          replace st := st.below hb
          replace kO0 := (hb.block _ (blk_lt kO0)).trans kO0
          have hbc := hb
          replace B2 := Rw.next B2 hb
          have sC := hb.size
          refine ⟨_, rfl, st, fun hHeld => ?_⟩
          simp only [Act.put, List.setIfInBounds_toArray, List.set_cons_zero, List.set_cons_succ]
          refine wpAnyH_ready (rs := [8]) (by kernel_rfl) (by simp) (Yh.readyRun (i := 8) rfl (by kernel_rfl) (some 37) (by kernel_rfl) (v := .slice (some ⟨Wc.heap.size, 0, none⟩) 1 1) (w' := Wc.alloc (.cells f.vals 41)) (exec_one rfl (by kernel_rfl)) (st.below (below_alloc1 _ _)) (fun hHeld => ?_) AllReadyH.nil)
          simp only [Act.put, List.setIfInBounds_toArray, List.set_cons_zero, List.set_cons_succ]
          obtain ⟨Wd, hWd⟩ : ∃ Wd, Wd = Wc.alloc (.cells f.vals 41) := ⟨_, rfl⟩
          rw [← hWd] at hHeld ⊢
          have hT : Wd.heap[Wc.heap.size]? = some (.cells f.vals 41 (0, 0)) := by subst hWd; exact at_new rfl
          have hb : Below Wc.heap.size Wc Wd := by subst hWd; exact below_alloc1 _ _
          replace st := st.below hb
          replace kO0 := (hb.block _ (blk_lt kO0)).trans kO0
          replace B2 := Rw.next B2 hb
          have hf2 := hf.below hb
          have hbd := Rw.next hbc hb
          clear hb hWd
          obtain ⟨v', Z, hrun, hotZ, hgr⟩ := hot0.app 36 (c := 1) hbd hf2 (Nat.le_refl _) (by omega) hT hFl
          refine wpAnyH_ready (rs := [9]) (by kernel_rfl) (by simp) (Yh.readyRun (i := 9) rfl (by kernel_rfl) (some 38) (by kernel_rfl) (exec_app (.tmp 30) (.tmp 37) rfl (by kernel_rfl) (by kernel_rfl) hrun) (st.grown hgr) (fun hHeld => ?_) AllReadyH.nil)
          simp only [Act.put, List.setIfInBounds_toArray, List.set_cons_zero, List.set_cons_succ]
          replace st := st.grown hgr
          obtain ⟨va, vn, vc, hv⟩ := hotZ.slice
          subst hv
          have kOZ := (hgr.block _ (blk_lt kO0) (fun e => by have := (hot0.row_lt e.symm).1; omega)).trans kO0
          replace B2 := B2.grown hgr B2.size (fun k hk => by have := (hot0.row_lt hk).1; omega)
          obtain ⟨o0, o1⟩ := Pm.two kOZ
          have fO := Bl.free kOZ
          refine Pq.take (i := 10) (d := some 39) (v := .pointer (some ⟨ob, 1, none⟩)) rfl (by kernel_rfl) (by kernel_rfl) (by kernel_rfl) (by kernel_rfl) (fun _ _ _ h => h) (Or.inl ⟨by rfl, by intro w hSw; go_simp⟩) hHeld ?_
          simp only [Act.put, List.setIfInBounds_toArray, List.set_cons_zero, List.set_cons_succ]
          refine wpAnyH_ready (rs := [11]) (by kernel_rfl) (by simp) (Yh.readySkip (i := 11) rfl (by kernel_rfl) none (by kernel_rfl) (w' := Z.setCell ⟨ob, 1, none⟩ (.slice va vn vc)) (by go_simp) st.set (fun hHeld => ?_) AllReadyH.nil)
          simp only [Act.put, List.setIfInBounds_toArray, List.set_cons_zero, List.set_cons_succ]
          refine wpAnyH_done (by kernel_rfl) ?_ _
          have kO' : (Z.setCell ⟨ob, 1, none⟩ (.slice va vn vc)).heap[ob]? = some (.cells #[.int .i64 q, (.slice va vn vc)] 38 (0, 0)) := blk_same kOZ
          have B1' : Below w.heap.size w (Z.setCell ⟨ob, 1, none⟩ (.slice va vn vc)) := Pm.bset B2 hwo
          have hot' : OT (Z.setCell ⟨ob, 1, none⟩ (.slice va vn vc)) B (.slice va vn vc) (F ++ [f]) := hotZ.keep fun x _ hx => blk_other rfl (by omega)
          replace st : Stab wr (ob) v (Z.setCell ⟨ob, 1, none⟩ (.slice va vn vc)) := st.set
          go_wp2
          go_roundw
          case rel => exact ⟨i + 1, .slice va vn vc, F ++ [f], by omega, by go_num, B1', (st.block _ (by omega) (by omega) (fun e => by have := (hot.row_lt e.symm).1; omega)).trans kT, (st.block _ (by omega) (by omega) (fun e => by have := (hot.row_lt e.symm).1; omega)).trans kR, kO', hot', by have := st.size; omega, by simp only [sel]; rw [HP.out, if_pos rfl, List.map_append, ← HF.out, said_getD, HX.out]; simp [sf]⟩
          case measure => simp [intOf]; omega
        · rintro e1 Wc ⟨f, rfl, sf, hf, hb⟩
          replace st := st.below hb
          replace kO0 := (hb.block _ (blk_lt kO0)).trans kO0
          have hbc := hb
          replace B2 := Rw.next B2 hb
          have sC := hb.size
          refine ⟨_, rfl, st, fun hHeld => ?_⟩
          simp only [Act.put, List.setIfInBounds_toArray, List.set_cons_zero, List.set_cons_succ]
          refine wpAnyH_ready (rs := [1, 8]) (by kernel_rfl) (by simp) (Yh.readyRun (i := 1) rfl (by kernel_rfl) (some 30) (by kernel_rfl) (v := v) (w' := Wc) (by obtain ⟨o0, o1⟩ := Pm.two kO0; go_simp) st (fun hHeld => ?_) (Yh.readyRun (i := 8) rfl (by kernel_rfl) (some 37) (by kernel_rfl) (v := .slice (some ⟨Wc.heap.size, 0, none⟩) 1 1) (w' := Wc.alloc (.cells f.vals 41)) (exec_one rfl (by kernel_rfl)) (st.below (below_alloc1 _ _)) (fun hHeld => ?_) AllReadyH.nil))
          · simp only [Act.put, List.setIfInBounds_toArray, List.set_cons_zero, List.set_cons_succ]
            refine wpAnyH_ready (rs := [8]) (by kernel_rfl) (by simp) (Yh.readyRun (i := 8) rfl (by kernel_rfl) (some 37) (by kernel_rfl) (v := .slice (some ⟨Wc.heap.size, 0, none⟩) 1 1) (w' := Wc.alloc (.cells f.vals 41)) (exec_one rfl (by kernel_rfl)) (st.below (below_alloc1 _ _)) (fun hHeld => ?_) AllReadyH.nil)
            simp only [Act.put, List.setIfInBounds_toArray, List.set_cons_zero, List.set_cons_succ]
            obtain ⟨Wd, hWd⟩ : ∃ Wd, Wd = Wc.alloc (.cells f.vals 41) := ⟨_, rfl⟩
            rw [← hWd] at hHeld ⊢
            have hT : Wd.heap[Wc.heap.size]? = some (.cells f.vals 41 (0, 0)) := by subst hWd; exact at_new rfl
            have hb : Below Wc.heap.size Wc Wd := by subst hWd; exact below_alloc1 _ _
            replace st := st.below hb
            replace kO0 := (hb.block _ (blk_lt kO0)).trans kO0
            replace B2 := Rw.next B2 hb
            have hf2 := hf.below hb
            have hbd := Rw.next hbc hb
            clear hb hWd
            obtain ⟨v', Z, hrun, hotZ, hgr⟩ := hot0.app 36 (c := 1) hbd hf2 (Nat.le_refl _) (by omega) hT hFl
            refine wpAnyH_ready (rs := [9]) (by kernel_rfl) (by simp) (Yh.readyRun (i := 9) rfl (by kernel_rfl) (some 38) (by kernel_rfl) (exec_app (.tmp 30) (.tmp 37) rfl (by kernel_rfl) (by kernel_rfl) hrun) (st.grown hgr) (fun hHeld => ?_) AllReadyH.nil)
            simp only [Act.put, List.setIfInBounds_toArray, List.set_cons_zero, List.set_cons_succ]
            replace st := st.grown hgr
            obtain ⟨va, vn, vc, hv⟩ := hotZ.slice
            subst hv
            have kOZ := (hgr.block _ (blk_lt kO0) (fun e => by have := (hot0.row_lt e.symm).1; omega)).trans kO0
            replace B2 := B2.grown hgr B2.size (fun k hk => by have := (hot0.row_lt hk).1; omega)
            obtain ⟨o0, o1⟩ := Pm.two kOZ
            have fO := Bl.free kOZ
            refine Pq.take (i := 10) (d := some 39) (v := .pointer (some ⟨ob, 1, none⟩)) rfl (by kernel_rfl) (by kernel_rfl) (by kernel_rfl) (by kernel_rfl) (fun _ _ _ h => h) (Or.inl ⟨by rfl, by intro w hSw; go_simp⟩) hHeld ?_
            simp only [Act.put, List.setIfInBounds_toArray, List.set_cons_zero, List.set_cons_succ]
            refine wpAnyH_ready (rs := [11]) (by kernel_rfl) (by simp) (Yh.readySkip (i := 11) rfl (by kernel_rfl) none (by kernel_rfl) (w' := Z.setCell ⟨ob, 1, none⟩ (.slice va vn vc)) (by go_simp) st.set (fun hHeld => ?_) AllReadyH.nil)
            simp only [Act.put, List.setIfInBounds_toArray, List.set_cons_zero, List.set_cons_succ]
            refine wpAnyH_done (by kernel_rfl) ?_ _
            have kO' : (Z.setCell ⟨ob, 1, none⟩ (.slice va vn vc)).heap[ob]? = some (.cells #[.int .i64 q, (.slice va vn vc)] 38 (0, 0)) := blk_same kOZ
            have B1' : Below w.heap.size w (Z.setCell ⟨ob, 1, none⟩ (.slice va vn vc)) := Pm.bset B2 hwo
            have hot' : OT (Z.setCell ⟨ob, 1, none⟩ (.slice va vn vc)) B (.slice va vn vc) (F ++ [f]) := hotZ.keep fun x _ hx => blk_other rfl (by omega)
            replace st : Stab wr (ob) v (Z.setCell ⟨ob, 1, none⟩ (.slice va vn vc)) := st.set
            go_wp2
            go_roundw
            case rel => exact ⟨i + 1, .slice va vn vc, F ++ [f], by omega, by go_num, B1', (st.block _ (by omega) (by omega) (fun e => by have := (hot.row_lt e.symm).1; omega)).trans kT, (st.block _ (by omega) (by omega) (fun e => by have := (hot.row_lt e.symm).1; omega)).trans kR, kO', hot', by have := st.size; omega, by simp only [sel]; rw [HP.out, if_pos rfl, List.map_append, ← HF.out, said_getD, HX.out]; simp [sf]⟩
            case measure => simp [intOf]; omega
          · simp only [Act.put, List.setIfInBounds_toArray, List.set_cons_zero, List.set_cons_succ]
            obtain ⟨Wd, hWd⟩ : ∃ Wd, Wd = Wc.alloc (.cells f.vals 41) := ⟨_, rfl⟩
            rw [← hWd] at hHeld ⊢
            have hT : Wd.heap[Wc.heap.size]? = some (.cells f.vals 41 (0, 0)) := by subst hWd; exact at_new rfl
            have hb : Below Wc.heap.size Wc Wd := by subst hWd; exact below_alloc1 _ _
            replace st := st.below hb
            replace kO0 := (hb.block _ (blk_lt kO0)).trans kO0
            replace B2 := Rw.next B2 hb
            have hf2 := hf.below hb
            have hbd := Rw.next hbc hb
            clear hb hWd
            refine wpAnyH_ready (rs := [1]) (by kernel_rfl) (by simp) (Yh.readyRun (i := 1) rfl (by kernel_rfl) (some 30) (by kernel_rfl) (v := v) (w' := Wd) (by obtain ⟨o0, o1⟩ := Pm.two kO0; go_simp) st (fun hHeld => ?_) AllReadyH.nil)
            simp only [Act.put, List.setIfInBounds_toArray, List.set_cons_zero, List.set_cons_succ]
            obtain ⟨v', Z, hrun, hotZ, hgr⟩ := hot0.app 36 (c := 1) hbd hf2 (Nat.le_refl _) (by omega) hT hFl
            refine wpAnyH_ready (rs := [9]) (by kernel_rfl) (by simp) (Yh.readyRun (i := 9) rfl (by kernel_rfl) (some 38) (by kernel_rfl) (exec_app (.tmp 30) (.tmp 37) rfl (by kernel_rfl) (by kernel_rfl) hrun) (st.grown hgr) (fun hHeld => ?_) AllReadyH.nil)
            simp only [Act.put, List.setIfInBounds_toArray, List.set_cons_zero, List.set_cons_succ]
            replace st := st.grown hgr
            obtain ⟨va, vn, vc, hv⟩ := hotZ.slice
            subst hv
            have kOZ := (hgr.block _ (blk_lt kO0) (fun e => by have := (hot0.row_lt e.symm).1; omega)).trans kO0
            replace B2 := B2.grown hgr B2.size (fun k hk => by have := (hot0.row_lt hk).1; omega)
            obtain ⟨o0, o1⟩ := Pm.two kOZ
            have fO := Bl.free kOZ
            refine Pq.take (i := 10) (d := some 39) (v := .pointer (some ⟨ob, 1, none⟩)) rfl (by kernel_rfl) (by kernel_rfl) (by kernel_rfl) (by kernel_rfl) (fun _ _ _ h => h) (Or.inl ⟨by rfl, by intro w hSw; go_simp⟩) hHeld ?_
            simp only [Act.put, List.setIfInBounds_toArray, List.set_cons_zero, List.set_cons_succ]
            refine wpAnyH_ready (rs := [11]) (by kernel_rfl) (by simp) (Yh.readySkip (i := 11) rfl (by kernel_rfl) none (by kernel_rfl) (w' := Z.setCell ⟨ob, 1, none⟩ (.slice va vn vc)) (by go_simp) st.set (fun hHeld => ?_) AllReadyH.nil)
            simp only [Act.put, List.setIfInBounds_toArray, List.set_cons_zero, List.set_cons_succ]
            refine wpAnyH_done (by kernel_rfl) ?_ _
            have kO' : (Z.setCell ⟨ob, 1, none⟩ (.slice va vn vc)).heap[ob]? = some (.cells #[.int .i64 q, (.slice va vn vc)] 38 (0, 0)) := blk_same kOZ
            have B1' : Below w.heap.size w (Z.setCell ⟨ob, 1, none⟩ (.slice va vn vc)) := Pm.bset B2 hwo
            have hot' : OT (Z.setCell ⟨ob, 1, none⟩ (.slice va vn vc)) B (.slice va vn vc) (F ++ [f]) := hotZ.keep fun x _ hx => blk_other rfl (by omega)
            replace st : Stab wr (ob) v (Z.setCell ⟨ob, 1, none⟩ (.slice va vn vc)) := st.set
            go_wp2
            go_roundw
            case rel => exact ⟨i + 1, .slice va vn vc, F ++ [f], by omega, by go_num, B1', (st.block _ (by omega) (by omega) (fun e => by have := (hot.row_lt e.symm).1; omega)).trans kT, (st.block _ (by omega) (by omega) (fun e => by have := (hot.row_lt e.symm).1; omega)).trans kR, kO', hot', by have := st.size; omega, by simp only [sel]; rw [HP.out, if_pos rfl, List.map_append, ← HF.out, said_getD, HX.out]; simp [sf]⟩
            case measure => simp [intOf]; omega
      · have he' : (x.ep == ep) = false := by simpa using he
        have HP : Hid (p i = false) := by rw [hpx]; exact decide_eq_false he
        clear hpx he
        go_wp2
        go_roundw
        case rel => exact ⟨i + 1, v, F, by omega, by go_num, B1, kT, kR, kO, hot, hBs, by simp only [sel]; rw [HP.out]; exact HF.out⟩
        case measure => simp [intOf]; omega
    · obtain rfl : i = n := by omega
      obtain ⟨aF, gF, cF, rfl, _, _⟩ := hot.form (by omega)
      have hlen : F.length = (sel p (Q.map Ent.said) i).length := by rw [← HF.out]; simp
      have hz : (i : Int) - (F.length : Int) = m := by rw [hlen]; exact HM.out.symm
      have hwm : IntKind.i64.wrap m = m := by rw [IntKind.wrap_i64]; omega
      clear hlen hc ho
      go_wp2
      refine wp_region_held_drew (S := (fun w' => w'.heap[w.heap.size]? = some (.cells #[.int .i64 q, .slice a i cap] 38 (0, 0)) ∧ w'.heap[ob]? = some (.cells #[.int .i64 q, .slice aF F.length cF] 38 (0, 0)))) (by kernel_rfl) ⟨kT, kO⟩ (fun hHeld => ?_)
      refine Pq.take (i := 0) (d := some 41) (v := .agg #[.int .i64 q, .slice aF F.length cF]) rfl (by kernel_rfl) (by kernel_rfl) (by kernel_rfl) (by kernel_rfl) (fun _ _ _ h => h) (Or.inl ⟨by rfl, by intro w hSw; obtain ⟨z0, z1⟩ := hSw; obtain ⟨s0, s1⟩ := Pm.two z0; obtain ⟨s2, s3⟩ := Pm.two z1; go_simp⟩) hHeld ?_
      simp only [Act.put, List.setIfInBounds_toArray, List.set_cons_zero, List.set_cons_succ]
      refine Pq.take (i := 1) (d := some 42) (v := .pointer (some ⟨w.heap.size, 1, none⟩)) rfl (by kernel_rfl) (by kernel_rfl) (by kernel_rfl) (by kernel_rfl) (fun _ _ _ h => h) (Or.inl ⟨by rfl, by intro w hSw; go_simp⟩) hHeld ?_
      simp only [Act.put, List.setIfInBounds_toArray, List.set_cons_zero, List.set_cons_succ]
      refine Pq.take (i := 2) (d := some 43) (v := .slice a i cap) rfl (by kernel_rfl) (by kernel_rfl) (by kernel_rfl) (by kernel_rfl) (fun _ _ _ h => h) (Or.inl ⟨by rfl, by intro w hSw; obtain ⟨z0, z1⟩ := hSw; obtain ⟨s0, s1⟩ := Pm.two z0; obtain ⟨s2, s3⟩ := Pm.two z1; go_simp⟩) hHeld ?_
      simp only [Act.put, List.setIfInBounds_toArray, List.set_cons_zero, List.set_cons_succ]
      refine Pq.take (i := 3) (d := some 44) (v := .int .i64 i) rfl (by kernel_rfl) (by kernel_rfl) (by kernel_rfl) (by kernel_rfl) (fun _ _ _ h => h) (Or.inl ⟨by rfl, by intro w hSw; go_simp⟩) hHeld ?_
      simp only [Act.put, List.setIfInBounds_toArray, List.set_cons_zero, List.set_cons_succ]
      refine Pq.take (i := 4) (d := some 45) (v := .pointer (some ⟨ob, 1, none⟩)) rfl (by kernel_rfl) (by kernel_rfl) (by kernel_rfl) (by kernel_rfl) (fun _ _ _ h => h) (Or.inl ⟨by rfl, by intro w hSw; go_simp⟩) hHeld ?_
      simp only [Act.put, List.setIfInBounds_toArray, List.set_cons_zero, List.set_cons_succ]
      refine Pq.take (i := 5) (d := some 46) (v := .slice aF F.length cF) rfl (by kernel_rfl) (by kernel_rfl) (by kernel_rfl) (by kernel_rfl) (fun _ _ _ h => h) (Or.inl ⟨by rfl, by intro w hSw; obtain ⟨z0, z1⟩ := hSw; obtain ⟨s0, s1⟩ := Pm.two z0; obtain ⟨s2, s3⟩ := Pm.two z1; go_simp⟩) hHeld ?_
      simp only [Act.put, List.setIfInBounds_toArray, List.set_cons_zero, List.set_cons_succ]
      refine Pq.take (i := 6) (d := some 47) (v := .int .i64 F.length) rfl (by kernel_rfl) (by kernel_rfl) (by kernel_rfl) (by kernel_rfl) (fun _ _ _ h => h) (Or.inl ⟨by rfl, by intro w hSw; go_simp⟩) hHeld ?_
      simp only [Act.put, List.setIfInBounds_toArray, List.set_cons_zero, List.set_cons_succ]
      refine Pq.take (i := 7) (d := some 48) (v := .int .i64 m) rfl (by kernel_rfl) (by kernel_rfl) (by kernel_rfl) (by kernel_rfl) (fun _ _ _ h => h) (Or.inl ⟨by rfl, by intro w hSw; go_simp⟩) hHeld ?_
      simp only [Act.put, List.setIfInBounds_toArray, List.set_cons_zero, List.set_cons_succ]
      obtain ⟨r0, r1⟩ := Pm.two kR
      have fR := Bl.free kR
      refine wpAnyH_ready (rs := [8]) (by kernel_rfl) (by simp) (Yh.readySkip (i := 8) rfl (by kernel_rfl) none (by kernel_rfl) (w' := (wr.drew.setCell ⟨w.heap.size + 1, 0, none⟩ (.int .i64 q)).setCell ⟨w.heap.size + 1, 1, none⟩ (.slice aF F.length cF)) (by go_simp) ⟨blk_other (blk_other kT (by omega)) (by omega), blk_other (blk_other kO (by omega)) (by omega)⟩ (fun hHeld => ?_) AllReadyH.nil)
      simp only [Act.put, List.setIfInBounds_toArray, List.set_cons_zero, List.set_cons_succ]
      refine Pq.take (i := 9) (d := some 5) (v := .int .i64 m) rfl (by kernel_rfl) (by kernel_rfl) (by kernel_rfl) (by kernel_rfl) (fun _ _ _ h => h) (Or.inl ⟨by rfl, by intro w hSw; go_simp⟩) hHeld ?_
      simp only [Act.put, List.setIfInBounds_toArray, List.set_cons_zero, List.set_cons_succ]
      refine wpAnyH_done (by kernel_rfl) ?_ _
      go_wp2
      have y0 : (wr.setCell ⟨w.heap.size + 1, 0, none⟩ (.int .i64 q)).cell? ⟨w.heap.size + 1, 0, none⟩ = some (.int .i64 q) := (Pm.two (blk_same kR)).1
      have y1 : ((wr.setCell ⟨w.heap.size + 1, 0, none⟩ (.int .i64 q)).setCell ⟨w.heap.size + 1, 1, none⟩ (.slice aF F.length cF)).cell? ⟨w.heap.size + 1, 1, none⟩ = some (.slice aF F.length cF) := (Pm.two (blk_same (blk_same kR))).2
      exact bodyPost_ret (v := .tuple #[.agg #[.int .i64 q, .slice aF F.length cF], .int .i64 m]) (by simp [results, Try.results45, go_sem, y0, y1]) rfl ⟨_, F, rfl, ((hot.below ((Below.refl _ _).drew)).keep (fun x _ hx => blk_other (blk_other rfl (by omega)) (by omega))).mono (by omega), HF.out, Pm.bset (Pm.bset (Rw.next B1 ((Below.refl _ _).drew)) (by omega)) (by omega)⟩

end Go.Proofs.Ytcbgnfjnjfaacaa.Cp
namespace Go.Proofs.Ytcbgnfjnjfaacaa.Cp
set_option maxRecDepth 8000
set_option linter.unusedSimpArgs false
set_option linter.unusedVariables false
open Go Go.RowKit
open Num Pl Ea Em

theorem rd_blk {w w' : World} {a : Option Addr} {b off : Nat} {l : List Int} (h : Hr.Rd w a b off l) (e : 0 < l.length → w'.heap[b]? = w.heap[b]?) : Hr.Rd w' a b off l :=
  ⟨h.head, fun i hi => by have := h.cell i hi; have e := e (by omega); simp only [World.cell?, e] at this ⊢; exact this, h.size⟩
theorem rdA_blk {w w' : World} {a : Option Addr} {b off : Nat} {l : List Yb.A3} (h : Yb.Rd w a b off l) (e : 0 < l.length → w'.heap[b]? = w.heap[b]?) : Yb.Rd w' a b off l := by
  refine ⟨h.head, fun i hi => ?_, h.size⟩
  have e := e (by omega)
  have hc : ∀ j, w'.cell? ⟨b, j, none⟩ = w.cell? ⟨b, j, none⟩ := fun j => by simp only [World.cell?, e]
  obtain ⟨c0, c1, c2⟩ := h.cell i hi
  exact ⟨(hc _).trans c0, (hc _).trans c1, (hc _).trans c2⟩
theorem Form.keep {w w' : World} {B : Nat} {a : Option Addr} {g : Nat} {F : List Ent} (h : Form w B a g F) (hz : w.heap.size ≤ w'.heap.size) (hk : ∀ x, UseT g F.length (at_ F) x → w'.heap[x]? = w.heap[x]?) : Form w' B a g F := by
  have hg : 0 < F.length → w'.heap[g]? = w.heap[g]? := fun h0 => hk g (.inl ⟨h0, rfl⟩)
  have hu : ∀ i, i < F.length → ∀ x, Uses (F.getD i e0) x → w'.heap[x]? = w.heap[x]? := fun i hi x hx => hk x (.inr ⟨i, hi, hx⟩)
  refine ⟨h.head, ⟨h.rd.head, fun i hi j hj => ?_, fun i hi => ?_, h.rd.size⟩, ⟨fun j hj => ?_, fun j hj => ?_, fun i hi => (h.wt.each i hi).keep fun x hx _ => hu i hi x hx⟩, h.ap, fun x hx => ⟨(h.use x hx).1, Nat.lt_of_lt_of_le (h.use x hx).2 hz⟩⟩
  · have := h.rd.cell i hi j hj
    have e := hg (by omega)
    simp only [World.cell?, e] at this ⊢; exact this
  · have o := h.rd.ok i hi
    have hV := h.wt.each i hi
    refine ⟨?_, ?_, ?_, o.wV, o.wM⟩
    · rcases Nat.eq_zero_or_pos (F.getD i e0).V.length with h0 | h0
      · exact ⟨o.rV.head, fun j hj => by omega, o.rV.size⟩
      · have e1 := o.rV.head h0
        have e2 := hV.V.head h0
        have e3 : (F.getD i e0).bV = (at_ F i).bV := rfl
        exact rd_blk o.rV fun _ => hu i hi _ (.inl ⟨rfl, h0⟩)
    · exact rd_blk o.rM fun h0 => hu i hi _ (.inr (.inl ⟨rfl, h0⟩))
    · exact rdA_blk o.rA fun h0 => hu i hi _ (.inr (.inr ⟨rfl, h0⟩))
  · have := h.wt.row j hj
    have e := hg (by omega)
    simp only [World.cell?, e] at this ⊢; exact this
  · have := h.wt.free j hj
    have e := hg (by omega)
    simp only [World.frozen?, e] at this ⊢; exact this
theorem wtF_below {w w' : World} {g n : Nat} {f : Nat → Ent} (h : WtF w g n f) (hb : Below w.heap.size w w') : WtF w' g n f := by
  refine ⟨fun j hj => ?_, fun j hj => ?_, fun i hi => (h.each i hi).below hb⟩
  · exact (hb.cell (World.block_lt_of_cell? _ _ (h.row j hj))).trans (h.row j hj)
  · have e := hb.block g (World.block_lt_of_cell? _ _ (h.row j hj))
    have := h.free j hj
    simp only [World.frozen?, e] at this ⊢; exact this
theorem kAt_bound {F : List Ent} {w : World} {a : Option Addr} {b off : Nat} (h : Rd w a b off F) : ∀ k, k ≤ F.length → kAt (at_ F) k ≤ k * 20971523 := by
  intro k
  induction k with
  | zero => intro _; simp [kAt]
  | succ k ih =>
    intro hk
    have := ih (by omega)
    have o := h.ok k (by omega)
    have h1 := o.rV.size
    have h2 := o.rM.size
    have h3 := o.rA.size
    simp only [kAt, esz, at_]
    have e1 : kAt (at_ F) k = kAt (fun i => F.getD i e0) k := rfl
    rw [e1] at this
    omega
theorem kAt_small {F : List Ent} {w : World} {a : Option Addr} {b off : Nat} (h : Rd w a b off F) (hl : F.length ≤ 401) : 1 + (kAt (at_ F) F.length : Int) ≤ 100000000000 := by
  have := kAt_bound h F.length (Nat.le_refl _)
  omega

end Go.Proofs.Ytcbgnfjnjfaacaa.Cp
