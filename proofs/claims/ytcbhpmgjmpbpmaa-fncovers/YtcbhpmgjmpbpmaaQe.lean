/-
  Contracts laid together (Gb).
-/
import Derived.Test.YtcbhpmgjmpbpmaaQd
namespace Go.Proofs.Ytcbhpmgjmpbpmaa.Ga
set_option maxRecDepth 8000
set_option linter.unusedSimpArgs false
set_option linter.unusedVariables false
open Go Go.RowKit
open Num Pl Ea

def noR (pr : Int) (V M : List Int) (A : List Yb.A3) : Bool := decide (pr = 0) && (decide (V.length = 0) && (decide (M.length = 0) && decide (A.length = 0)))
def noN (hd : Bool) (H : List Int) : Bool := !hd && decide (H.length = 0)
def bodyB (kd : Int) (x : En) (hd : Bool) (H : List Int) : Bool :=
  if kd = 1 ∨ kd = 4 ∨ kd = 6 then decide (x.1 = 0) && (noR x.2.1 x.2.2.1 x.2.2.2.1 x.2.2.2.2.1 && noN hd H)
  else if kd = 2 then enB x && noN hd H
  else if kd = 3 then upB 1000000000 x.1 && (noR x.2.1 x.2.2.1 x.2.2.2.1 x.2.2.2.2.1 && noN hd H)
  else if kd = 5 then decide (x.1 = 0) && (noR x.2.1 x.2.2.1 x.2.2.2.1 x.2.2.2.2.1 && Hg.headB H)
  else false
/-- Is a message right? -/
def msgB (x : Said) : Bool := upB 1000000000 x.2.1 && (upB 4294967295 x.2.2.1 && bodyB x.1 x.2.2.2.1 x.2.2.2.2.1 x.2.2.2.2.2)

set_option maxHeartbeats 2000000 in
theorem noRule_any (kd se xi ep pr : Int) (V M : List Int) (A : List Yb.A3) (hd : Bool) (H : List Int) (aV aM aA aH : Option Addr) (cV cM cA cH : Nat) (w : World) :
    Calls Try.prog 171 #[.agg #[.int .i64 kd, .int .i64 se, .int .i64 xi, .int .i64 ep, .int .i64 pr, .slice aV V.length cV, .slice aM M.length cM, .slice aA A.length cA, .bool hd, .slice aH H.length cH]] w fun x w' => x = .returned (.bool (noR pr V M A)) ∧ Below w.heap.size w w' := by
  obtain ⟨nV, hV⟩ : ∃ nV, nV = V.length := ⟨_, rfl⟩
  obtain ⟨nM, hM⟩ : ∃ nM, nM = M.length := ⟨_, rfl⟩
  obtain ⟨nA, hA⟩ : ∃ nA, nA = A.length := ⟨_, rfl⟩
  unfold noR
  rw [← hV, ← hM, ← hA]
  clear hV hM hA
  by_cases h0 : pr = 0
  · subst h0
    by_cases h1 : nV = 0
    · subst h1
      by_cases h2 : nM = 0
      · subst h2
        by_cases h3 : nA = 0
        · subst h3
          go_enter Try.func171, Try.ntmps171
          go_wp2
          go_ret
          exact ⟨ret_bool (by simp), below_alloc1 _ _⟩
        · have z3 : ¬ (nA : Int) = 0 := by omega
          go_enter Try.func171, Try.ntmps171
          go_wp2
          go_ret
          exact ⟨ret_bool (by simp [h3]), below_alloc1 _ _⟩
      · have z2 : ¬ (nM : Int) = 0 := by omega
        go_enter Try.func171, Try.ntmps171
        go_wp2
        go_ret
        exact ⟨ret_bool (by simp [h2]), below_alloc1 _ _⟩
    · have z1 : ¬ (nV : Int) = 0 := by omega
      go_enter Try.func171, Try.ntmps171
      go_wp2
      go_ret
      exact ⟨ret_bool (by simp [h1]), below_alloc1 _ _⟩
  · go_enter Try.func171, Try.ntmps171
    go_wp2
    go_ret
    exact ⟨ret_bool (by simp [h0]), below_alloc1 _ _⟩

set_option maxHeartbeats 2000000 in
theorem noNote_any (kd se xi ep pr : Int) (V M : List Int) (A : List Yb.A3) (hd : Bool) (H : List Int) (aV aM aA aH : Option Addr) (cV cM cA cH : Nat) (w : World) :
    Calls Try.prog 172 #[.agg #[.int .i64 kd, .int .i64 se, .int .i64 xi, .int .i64 ep, .int .i64 pr, .slice aV V.length cV, .slice aM M.length cM, .slice aA A.length cA, .bool hd, .slice aH H.length cH]] w fun x w' => x = .returned (.bool (noN hd H)) ∧ Below w.heap.size w w' := by
  obtain ⟨nH, hH⟩ : ∃ nH, nH = H.length := ⟨_, rfl⟩
  unfold noN
  rw [← hH]
  clear hH
  cases hd
  · by_cases h3 : nH = 0
    · subst h3
      go_enter Try.func172, Try.ntmps172
      go_wp2
      go_ret
      exact ⟨ret_bool (by simp), below_alloc1 _ _⟩
    · have z3 : ¬ (nH : Int) = 0 := by omega
      go_enter Try.func172, Try.ntmps172
      go_wp2
      go_ret
      exact ⟨ret_bool (by simp [h3]), below_alloc1 _ _⟩
  · go_enter Try.func172, Try.ntmps172
    go_wp2
    go_ret
    exact ⟨ret_bool (by simp), below_alloc1 _ _⟩

set_option maxHeartbeats 8000000 in
theorem body_any (kd se xi ep pr : Int) (V M : List Int) (A : List Yb.A3) (hd : Bool) (H : List Int) (aV aM aA aH : Option Addr) (bV oV cV bM oM cM bA oA cA bH oH cH : Nat) (w : World) (rV : Hr.Rd w aV bV oV V) (rM : Hr.Rd w aM bM oM M) (rA : Yb.Rd w aA bA oA A) (rH : Hr.Rd w aH bH oH H) (wV : Po.Wide V) (wM : Po.Wide M) (wH : Po.Wide H) :
    Calls Try.prog 89 #[.agg #[.int .i64 kd, .int .i64 se, .int .i64 xi, .int .i64 ep, .int .i64 pr, .slice aV V.length cV, .slice aM M.length cM, .slice aA A.length cA, .bool hd, .slice aH H.length cH]] w fun x w' => x = .returned (.bool (bodyB kd (ep, pr, V, M, A, 0) hd H)) ∧ Below w.heap.size w w' := by
  obtain ⟨W1, hW1⟩ : ∃ W1, W1 = w.alloc (.cells #[.int .i64 kd, .int .i64 se, .int .i64 xi, .int .i64 ep, .int .i64 pr, .slice aV V.length cV, .slice aM M.length cM, .slice aA A.length cA, .bool hd, .slice aH H.length cH] 30) := ⟨_, rfl⟩
  have B1 : Below w.heap.size w W1 := by subst hW1; exact below_alloc1 _ _
  have k0 : W1.heap[w.heap.size]? = some (.cells #[.int .i64 kd, .int .i64 se, .int .i64 xi, .int .i64 ep, .int .i64 pr, .slice aV V.length cV, .slice aM M.length cM, .slice aA A.length cA, .bool hd, .slice aH H.length cH] 30 (0, 0)) := by subst hW1; exact at_new rfl
  replace rV := rV.below B1
  replace rM := rM.below B1
  replace rA := rA.below B1
  replace rH := rH.below B1
  have okE : Ent.Ok W1 ⟨ep, pr, V, M, A, 0, aV, bV, oV, cV, aM, bM, oM, cM, aA, bA, oA, cA⟩ := ⟨rV, rM, rA, wV, wM⟩
  have hEI := okE_impl
  simp only [ent_vals] at hEI
  unfold bodyB
  simp only
  generalize hnR : noR pr V M A = nR
  have HnR : Hid (noR pr V M A = nR) := hnR
  clear hnR
  generalize hnN : noN hd H = nN
  have HnN : Hid (noN hd H = nN) := hnN
  clear hnN
  generalize heB : enB (ep, pr, V, M, A, 0) = eB
  have HeB : Hid (enB (ep, pr, V, M, A, 0) = eB) := heB
  clear heB
  generalize hhB : Hg.headB H = hB
  have HhB : Hid (Hg.headB H = hB) := hhB
  clear hhB
  generalize huB : upB 1000000000 ep = uB
  have HuB : Hid (upB 1000000000 ep = uB) := huB
  clear huB
  by_cases k1 : kd = 1
  · subst k1
    rw [if_pos (by omega)]
    by_cases c0 : ep = 0
    · subst c0
      cases nR
      · skip
        go_enter Try.func89, Try.ntmps89
        go_wp2_with (first
          | (go_at_call 171; rw [← hW1]; clear hW1; refine (noRule_any _ _ _ _ _ V M A _ H _ _ _ _ _ _ _ _ _).mono ?_; rw [HnR.out]; rintro x wa ⟨rfl, ba⟩; replace k0 := (ba.block _ (blk_lt k0)).trans k0; replace B1 := Rw.next B1 ba; clear ba; obtain ⟨p0, p1, p2, p3, p4, p5, p6, p7, p8, p9⟩ := ten k0))
        go_ret
        exact ⟨ret_bool (by simp), B1⟩
      · skip
        go_enter Try.func89, Try.ntmps89
        go_wp2_with (first
          | (go_at_call 171; rw [← hW1]; clear hW1; refine (noRule_any _ _ _ _ _ V M A _ H _ _ _ _ _ _ _ _ _).mono ?_; rw [HnR.out]; rintro x wa ⟨rfl, ba⟩; replace k0 := (ba.block _ (blk_lt k0)).trans k0; replace B1 := Rw.next B1 ba; clear ba; obtain ⟨p0, p1, p2, p3, p4, p5, p6, p7, p8, p9⟩ := ten k0)
          | (go_at_call 172; refine (noNote_any _ _ _ _ _ V M A _ H _ _ _ _ _ _ _ _ _).mono ?_; rw [HnN.out]; rintro x wa ⟨rfl, ba⟩; replace k0 := (ba.block _ (blk_lt k0)).trans k0; replace B1 := Rw.next B1 ba; clear ba; clear p0 p1 p2 p3 p4 p5 p6 p7 p8 p9; obtain ⟨p0, p1, p2, p3, p4, p5, p6, p7, p8, p9⟩ := ten k0))
        go_ret
        exact ⟨ret_bool (by simp), B1⟩
    · skip
      go_enter Try.func89, Try.ntmps89
      go_wp2
      go_ret
      exact ⟨ret_bool (by simp [c0]), below_alloc1 _ _⟩
  by_cases k4 : kd = 4
  · subst k4
    rw [if_pos (by omega)]
    by_cases c0 : ep = 0
    · subst c0
      cases nR
      · skip
        go_enter Try.func89, Try.ntmps89
        go_wp2_with (first
          | (go_at_call 171; rw [← hW1]; clear hW1; refine (noRule_any _ _ _ _ _ V M A _ H _ _ _ _ _ _ _ _ _).mono ?_; rw [HnR.out]; rintro x wa ⟨rfl, ba⟩; replace k0 := (ba.block _ (blk_lt k0)).trans k0; replace B1 := Rw.next B1 ba; clear ba; obtain ⟨p0, p1, p2, p3, p4, p5, p6, p7, p8, p9⟩ := ten k0))
        go_ret
        exact ⟨ret_bool (by simp), B1⟩
      · skip
        go_enter Try.func89, Try.ntmps89
        go_wp2_with (first
          | (go_at_call 171; rw [← hW1]; clear hW1; refine (noRule_any _ _ _ _ _ V M A _ H _ _ _ _ _ _ _ _ _).mono ?_; rw [HnR.out]; rintro x wa ⟨rfl, ba⟩; replace k0 := (ba.block _ (blk_lt k0)).trans k0; replace B1 := Rw.next B1 ba; clear ba; obtain ⟨p0, p1, p2, p3, p4, p5, p6, p7, p8, p9⟩ := ten k0)
          | (go_at_call 172; refine (noNote_any _ _ _ _ _ V M A _ H _ _ _ _ _ _ _ _ _).mono ?_; rw [HnN.out]; rintro x wa ⟨rfl, ba⟩; replace k0 := (ba.block _ (blk_lt k0)).trans k0; replace B1 := Rw.next B1 ba; clear ba; clear p0 p1 p2 p3 p4 p5 p6 p7 p8 p9; obtain ⟨p0, p1, p2, p3, p4, p5, p6, p7, p8, p9⟩ := ten k0))
        go_ret
        exact ⟨ret_bool (by simp), B1⟩
    · skip
      go_enter Try.func89, Try.ntmps89
      go_wp2
      go_ret
      exact ⟨ret_bool (by simp [c0]), below_alloc1 _ _⟩
  by_cases k6 : kd = 6
  · subst k6
    rw [if_pos (by omega)]
    by_cases c0 : ep = 0
    · subst c0
      cases nR
      · skip
        go_enter Try.func89, Try.ntmps89
        go_wp2_with (first
          | (go_at_call 171; rw [← hW1]; clear hW1; refine (noRule_any _ _ _ _ _ V M A _ H _ _ _ _ _ _ _ _ _).mono ?_; rw [HnR.out]; rintro x wa ⟨rfl, ba⟩; replace k0 := (ba.block _ (blk_lt k0)).trans k0; replace B1 := Rw.next B1 ba; clear ba; obtain ⟨p0, p1, p2, p3, p4, p5, p6, p7, p8, p9⟩ := ten k0))
        go_ret
        exact ⟨ret_bool (by simp), B1⟩
      · skip
        go_enter Try.func89, Try.ntmps89
        go_wp2_with (first
          | (go_at_call 171; rw [← hW1]; clear hW1; refine (noRule_any _ _ _ _ _ V M A _ H _ _ _ _ _ _ _ _ _).mono ?_; rw [HnR.out]; rintro x wa ⟨rfl, ba⟩; replace k0 := (ba.block _ (blk_lt k0)).trans k0; replace B1 := Rw.next B1 ba; clear ba; obtain ⟨p0, p1, p2, p3, p4, p5, p6, p7, p8, p9⟩ := ten k0)
          | (go_at_call 172; refine (noNote_any _ _ _ _ _ V M A _ H _ _ _ _ _ _ _ _ _).mono ?_; rw [HnN.out]; rintro x wa ⟨rfl, ba⟩; replace k0 := (ba.block _ (blk_lt k0)).trans k0; replace B1 := Rw.next B1 ba; clear ba; clear p0 p1 p2 p3 p4 p5 p6 p7 p8 p9; obtain ⟨p0, p1, p2, p3, p4, p5, p6, p7, p8, p9⟩ := ten k0))
        go_ret
        exact ⟨ret_bool (by simp), B1⟩
    · skip
      go_enter Try.func89, Try.ntmps89
      go_wp2
      go_ret
      exact ⟨ret_bool (by simp [c0]), below_alloc1 _ _⟩
  rw [if_neg (by omega)]
  by_cases k2 : kd = 2
  · subst k2
    rw [if_pos rfl]
    cases eB
    · skip
      go_enter Try.func89, Try.ntmps89
      go_wp2_with (first
        | (go_at_call 109; rw [← hW1]; clear hW1; refine (hEI ⟨ep, pr, V, M, A, 0, aV, bV, oV, cV, aM, bM, oM, cM, aA, bA, oA, cA⟩ _ okE).mono ?_; rw [show enB (Ent.said ⟨ep, pr, V, M, A, 0, aV, bV, oV, cV, aM, bM, oM, cM, aA, bA, oA, cA⟩) = _ from HeB.out]; rintro x wa ⟨rfl, ba⟩; replace k0 := (ba.block _ (blk_lt k0)).trans k0; replace B1 := Rw.next B1 ba; clear ba; obtain ⟨p0, p1, p2, p3, p4, p5, p6, p7, p8, p9⟩ := ten k0))
      go_ret
      exact ⟨ret_bool (by simp), B1⟩
    · skip
      go_enter Try.func89, Try.ntmps89
      go_wp2_with (first
        | (go_at_call 109; rw [← hW1]; clear hW1; refine (hEI ⟨ep, pr, V, M, A, 0, aV, bV, oV, cV, aM, bM, oM, cM, aA, bA, oA, cA⟩ _ okE).mono ?_; rw [show enB (Ent.said ⟨ep, pr, V, M, A, 0, aV, bV, oV, cV, aM, bM, oM, cM, aA, bA, oA, cA⟩) = _ from HeB.out]; rintro x wa ⟨rfl, ba⟩; replace k0 := (ba.block _ (blk_lt k0)).trans k0; replace B1 := Rw.next B1 ba; clear ba; obtain ⟨p0, p1, p2, p3, p4, p5, p6, p7, p8, p9⟩ := ten k0)
        | (go_at_call 172; refine (noNote_any _ _ _ _ _ V M A _ H _ _ _ _ _ _ _ _ _).mono ?_; rw [HnN.out]; rintro x wa ⟨rfl, ba⟩; replace k0 := (ba.block _ (blk_lt k0)).trans k0; replace B1 := Rw.next B1 ba; clear ba; clear p0 p1 p2 p3 p4 p5 p6 p7 p8 p9; obtain ⟨p0, p1, p2, p3, p4, p5, p6, p7, p8, p9⟩ := ten k0))
      go_ret
      exact ⟨ret_bool (by simp), B1⟩
  rw [if_neg k2]
  by_cases k3 : kd = 3
  · subst k3
    rw [if_pos rfl]
    cases uB
    · skip
      go_enter Try.func89, Try.ntmps89
      go_wp2_with (first
        | (go_at_call 88; rw [← hW1]; clear hW1; refine (upTo_any _ _ _).mono ?_; rw [HuB.out]; rintro x wa ⟨rfl, hw⟩; replace hw := hw.symm; subst hw; obtain ⟨p0, p1, p2, p3, p4, p5, p6, p7, p8, p9⟩ := ten k0))
      go_ret
      exact ⟨ret_bool (by simp), B1⟩
    · cases nR
      · skip
        go_enter Try.func89, Try.ntmps89
        go_wp2_with (first
          | (go_at_call 88; rw [← hW1]; clear hW1; refine (upTo_any _ _ _).mono ?_; rw [HuB.out]; rintro x wa ⟨rfl, hw⟩; replace hw := hw.symm; subst hw; obtain ⟨p0, p1, p2, p3, p4, p5, p6, p7, p8, p9⟩ := ten k0)
          | (go_at_call 171; refine (noRule_any _ _ _ _ _ V M A _ H _ _ _ _ _ _ _ _ _).mono ?_; rw [HnR.out]; rintro x wa ⟨rfl, ba⟩; replace k0 := (ba.block _ (blk_lt k0)).trans k0; replace B1 := Rw.next B1 ba; clear ba; clear p0 p1 p2 p3 p4 p5 p6 p7 p8 p9; obtain ⟨p0, p1, p2, p3, p4, p5, p6, p7, p8, p9⟩ := ten k0))
        go_ret
        exact ⟨ret_bool (by simp), B1⟩
      · skip
        go_enter Try.func89, Try.ntmps89
        go_wp2_with (first
          | (go_at_call 88; rw [← hW1]; clear hW1; refine (upTo_any _ _ _).mono ?_; rw [HuB.out]; rintro x wa ⟨rfl, hw⟩; replace hw := hw.symm; subst hw; obtain ⟨p0, p1, p2, p3, p4, p5, p6, p7, p8, p9⟩ := ten k0)
          | (go_at_call 171; refine (noRule_any _ _ _ _ _ V M A _ H _ _ _ _ _ _ _ _ _).mono ?_; rw [HnR.out]; rintro x wa ⟨rfl, ba⟩; replace k0 := (ba.block _ (blk_lt k0)).trans k0; replace B1 := Rw.next B1 ba; clear ba; clear p0 p1 p2 p3 p4 p5 p6 p7 p8 p9; obtain ⟨p0, p1, p2, p3, p4, p5, p6, p7, p8, p9⟩ := ten k0)
          | (go_at_call 172; refine (noNote_any _ _ _ _ _ V M A _ H _ _ _ _ _ _ _ _ _).mono ?_; rw [HnN.out]; rintro x wa ⟨rfl, ba⟩; replace k0 := (ba.block _ (blk_lt k0)).trans k0; replace B1 := Rw.next B1 ba; clear ba; clear p0 p1 p2 p3 p4 p5 p6 p7 p8 p9; obtain ⟨p0, p1, p2, p3, p4, p5, p6, p7, p8, p9⟩ := ten k0))
        go_ret
        exact ⟨ret_bool (by simp), B1⟩
  rw [if_neg k3]
  by_cases k5 : kd = 5
  · subst k5
    rw [if_pos rfl]
    by_cases c0 : ep = 0
    · subst c0
      cases nR
      · skip
        go_enter Try.func89, Try.ntmps89
        go_wp2_with (first
          | (go_at_call 171; rw [← hW1]; clear hW1; refine (noRule_any _ _ _ _ _ V M A _ H _ _ _ _ _ _ _ _ _).mono ?_; rw [HnR.out]; rintro x wa ⟨rfl, ba⟩; replace k0 := (ba.block _ (blk_lt k0)).trans k0; replace B1 := Rw.next B1 ba; clear ba; obtain ⟨p0, p1, p2, p3, p4, p5, p6, p7, p8, p9⟩ := ten k0))
        go_ret
        exact ⟨ret_bool (by simp), B1⟩
      · skip
        go_enter Try.func89, Try.ntmps89
        go_wp2_with (first
          | (go_at_call 171; rw [← hW1]; clear hW1; refine (noRule_any _ _ _ _ _ V M A _ H _ _ _ _ _ _ _ _ _).mono ?_; rw [HnR.out]; rintro x wa ⟨rfl, ba⟩; replace k0 := (ba.block _ (blk_lt k0)).trans k0; replace B1 := Rw.next B1 ba; replace rH := rH.below ba; clear ba; obtain ⟨p0, p1, p2, p3, p4, p5, p6, p7, p8, p9⟩ := ten k0)
          | (go_at_call 173; refine (Hg.implOk_any _ _ _ _ H _ rH).mono ?_; rw [HhB.out]; rintro x wa ⟨rfl, ba⟩; replace k0 := (ba.block _ (blk_lt k0)).trans k0; replace B1 := Rw.next B1 ba; clear ba))
        go_ret
        exact ⟨ret_bool (by simp), B1⟩
    · skip
      go_enter Try.func89, Try.ntmps89
      go_wp2
      go_ret
      exact ⟨ret_bool (by simp [c0]), below_alloc1 _ _⟩
  rw [if_neg k5]
  go_enter Try.func89, Try.ntmps89
  go_wp2
  go_ret
  exact ⟨rfl, below_alloc1 _ _⟩
  
set_option maxHeartbeats 8000000 in
theorem okM_impl (m : Msg) (w : World) (h : m.Ok w) : Calls Try.prog 23 #[.agg m.vals] w fun x w' => x = .returned (.bool (msgB m.said)) ∧ Below w.heap.size w w' := by
  obtain ⟨kd, se, xi, ⟨ep, pr, V, M, A, hh, aV, bV, oV, cV, aM, bM, oM, cM, aA, bA, oA, cA⟩, hd, H, aH, bH, oH, cH⟩ := m
  obtain ⟨⟨rV, rM, rA, wV, wM⟩, hz, rH, wH⟩ := h
  simp only at rV rM rA wV wM hz rH wH
  subst hz
  simp only [Msg.vals, msgB, Msg.said, Ent.said]
  obtain ⟨W1, hW1⟩ : ∃ W1, W1 = w.alloc (.cells #[.int .i64 kd, .int .i64 se, .int .i64 xi, .int .i64 ep, .int .i64 pr, .slice aV V.length cV, .slice aM M.length cM, .slice aA A.length cA, .bool hd, .slice aH H.length cH] 30) := ⟨_, rfl⟩
  have B1 : Below w.heap.size w W1 := by subst hW1; exact below_alloc1 _ _
  have k0 : W1.heap[w.heap.size]? = some (.cells #[.int .i64 kd, .int .i64 se, .int .i64 xi, .int .i64 ep, .int .i64 pr, .slice aV V.length cV, .slice aM M.length cM, .slice aA A.length cA, .bool hd, .slice aH H.length cH] 30 (0, 0)) := by subst hW1; exact at_new rfl
  replace rV := rV.below B1
  replace rM := rM.below B1
  replace rA := rA.below B1
  replace rH := rH.below B1
  generalize hb1 : upB 1000000000 se = b1
  have Hb1 : Hid (upB 1000000000 se = b1) := hb1
  clear hb1
  generalize hb2 : upB 4294967295 xi = b2
  have Hb2 : Hid (upB 4294967295 xi = b2) := hb2
  clear hb2
  generalize hb3 : bodyB kd (ep, pr, V, M, A, 0) hd H = b3
  have Hb3 : Hid (bodyB kd (ep, pr, V, M, A, 0) hd H = b3) := hb3
  clear hb3
  cases b1
  · have t1 : True := trivial
    go_enter Try.func23, Try.ntmps23
    go_wp2_with (first
      | (go_at_call 88; clear t1; rw [← hW1]; clear hW1; refine (upTo_any _ _ _).mono ?_; rw [Hb1.out]; rintro x wa ⟨rfl, hw⟩; replace hw := hw.symm; subst hw; obtain ⟨p0, p1, p2, p3, p4, p5, p6, p7, p8, p9⟩ := ten k0; have t2 : True := trivial))
    go_ret
    exact ⟨ret_bool (by simp), B1⟩
  cases b2
  · have t1 : True := trivial
    go_enter Try.func23, Try.ntmps23
    go_wp2_with (first
      | (go_at_call 88; clear t1; rw [← hW1]; clear hW1; refine (upTo_any _ _ _).mono ?_; rw [Hb1.out]; rintro x wa ⟨rfl, hw⟩; replace hw := hw.symm; subst hw; obtain ⟨p0, p1, p2, p3, p4, p5, p6, p7, p8, p9⟩ := ten k0; have t2 : True := trivial)
      | (go_at_call 88; clear t2; refine (upTo_any _ _ _).mono ?_; rw [Hb2.out]; rintro x wa ⟨rfl, hw⟩; replace hw := hw.symm; subst hw))
    go_ret
    exact ⟨ret_bool (by simp), B1⟩
  have t1 : True := trivial
  go_enter Try.func23, Try.ntmps23
  go_wp2_with (first
    | (go_at_call 88; clear t1; rw [← hW1]; clear hW1; refine (upTo_any _ _ _).mono ?_; rw [Hb1.out]; rintro x wa ⟨rfl, hw⟩; replace hw := hw.symm; subst hw; obtain ⟨p0, p1, p2, p3, p4, p5, p6, p7, p8, p9⟩ := ten k0; have t2 : True := trivial)
    | (go_at_call 88; clear t2; refine (upTo_any _ _ _).mono ?_; rw [Hb2.out]; rintro x wa ⟨rfl, hw⟩; replace hw := hw.symm; subst hw)
    | (go_at_call 89; refine (body_any _ _ _ _ _ V M A _ H _ _ _ _ _ _ _ _ _ _ _ _ _ _ _ _ _ rV rM rA rH wV wM wH).mono ?_; rw [Hb3.out]; rintro x wa ⟨rfl, ba⟩; replace k0 := (ba.block _ (blk_lt k0)).trans k0; replace B1 := Rw.next B1 ba; clear ba))
  go_ret
  exact ⟨ret_bool (by simp), B1⟩
  
theorem en_ep {x : En} (h : enB x = true) : 0 ≤ x.1 ∧ x.1 ≤ 1000000000 := by
  unfold enB upB at h; simp at h; exact h.1

set_option maxHeartbeats 16000000 in
theorem okM_spec (m : Msg) (w : World) (h : m.Ok w) : Calls Try.prog 15 #[.agg m.vals] w fun x w' => x = .returned (.bool (msgB m.said)) ∧ Below w.heap.size w w' := by
  obtain ⟨kd, se, xi, ⟨ep, pr, V, M, A, hh, aV, bV, oV, cV, aM, bM, oM, cM, aA, bA, oA, cA⟩, hd, H, aH, bH, oH, cH⟩ := m
  obtain ⟨⟨rV, rM, rA, wV, wM⟩, hz, rH, wH⟩ := h
  simp only at rV rM rA wV wM hz rH wH
  subst hz
  simp only [Msg.vals, msgB, Msg.said, Ent.said]
  obtain ⟨W1, hW1⟩ : ∃ W1, W1 = w.alloc (.cells #[.int .i64 kd, .int .i64 se, .int .i64 xi, .int .i64 ep, .int .i64 pr, .slice aV V.length cV, .slice aM M.length cM, .slice aA A.length cA, .bool hd, .slice aH H.length cH] 30) := ⟨_, rfl⟩
  have B1 : Below w.heap.size w W1 := by subst hW1; exact below_alloc1 _ _
  have k0 : W1.heap[w.heap.size]? = some (.cells #[.int .i64 kd, .int .i64 se, .int .i64 xi, .int .i64 ep, .int .i64 pr, .slice aV V.length cV, .slice aM M.length cM, .slice aA A.length cA, .bool hd, .slice aH H.length cH] 30 (0, 0)) := by subst hW1; exact at_new rfl
  replace rV := rV.below B1
  replace rM := rM.below B1
  replace rA := rA.below B1
  replace rH := rH.below B1
  have okE : Ent.Ok W1 ⟨ep, pr, V, M, A, 0, aV, bV, oV, cV, aM, bM, oM, cM, aA, bA, oA, cA⟩ := ⟨rV, rM, rA, wV, wM⟩
  have hES := okE_spec
  simp only [ent_vals] at hES
  by_cases c245 : se < 0
  · skip
    go_enter Try.func15, Try.ntmps15
    go_wp2
    go_ret
    exact ⟨ret_bool (by simp [upB]; omega), below_alloc1 _ _⟩
  by_cases c251 : 1000000000 < se
  · skip
    go_enter Try.func15, Try.ntmps15
    go_wp2
    go_ret
    exact ⟨ret_bool (by simp [upB]; omega), below_alloc1 _ _⟩
  by_cases c257 : xi < 0
  · skip
    go_enter Try.func15, Try.ntmps15
    go_wp2
    go_ret
    exact ⟨ret_bool (by simp [upB]; omega), below_alloc1 _ _⟩
  by_cases c263 : 4294967295 < xi
  · skip
    go_enter Try.func15, Try.ntmps15
    go_wp2
    go_ret
    exact ⟨ret_bool (by simp [upB]; omega), below_alloc1 _ _⟩
  have e1 : upB 1000000000 se = true := by simp [upB]; omega
  have e2 : upB 4294967295 xi = true := by simp [upB]; omega
  rw [e1, e2, Bool.true_and, Bool.true_and]
  clear e1 e2
  by_cases d273 : kd < 1
  · have nb : bodyB kd (ep, pr, V, M, A, 0) hd H = false := by unfold bodyB; rw [if_neg (by omega), if_neg (by omega), if_neg (by omega), if_neg (by omega)]
    rw [nb]
    go_enter Try.func15, Try.ntmps15
    go_wp2
    go_ret
    exact ⟨rfl, below_alloc1 _ _⟩
  by_cases d280 : 6 < kd
  · have nb : bodyB kd (ep, pr, V, M, A, 0) hd H = false := by unfold bodyB; rw [if_neg (by omega), if_neg (by omega), if_neg (by omega), if_neg (by omega)]
    rw [nb]
    go_enter Try.func15, Try.ntmps15
    go_wp2
    go_ret
    exact ⟨rfl, below_alloc1 _ _⟩
  by_cases k2 : kd = 2
  · subst k2
    have nb : bodyB 2 (ep, pr, V, M, A, 0) hd H = (enB (ep, pr, V, M, A, 0) && noN hd H) := by unfold bodyB; rw [if_neg (by omega), if_pos rfl]
    rw [nb]
    clear nb
    generalize heB : enB (ep, pr, V, M, A, 0) = eB
    have HeB : Hid (enB (ep, pr, V, M, A, 0) = eB) := heB
    cases eB
    · clear heB
      go_enter Try.func15, Try.ntmps15
      go_wp2_with (first
        | (go_at_call 67; rw [← hW1]; clear hW1; refine (hES ⟨ep, pr, V, M, A, 0, aV, bV, oV, cV, aM, bM, oM, cM, aA, bA, oA, cA⟩ _ okE).mono ?_; rw [show enB (Ent.said ⟨ep, pr, V, M, A, 0, aV, bV, oV, cV, aM, bM, oM, cM, aA, bA, oA, cA⟩) = _ from HeB.out]; rintro x wa ⟨rfl, ba⟩; replace k0 := (ba.block _ (blk_lt k0)).trans k0; replace B1 := Rw.next B1 ba; clear ba; obtain ⟨p0, p1, p2, p3, p4, p5, p6, p7, p8, p9⟩ := ten k0))
      go_ret
      exact ⟨rfl, B1⟩
    · have hep := en_ep heB
      simp only at hep
      obtain ⟨hep0, hep1⟩ := hep
      have hep2 : ¬ ep < 0 := by omega
      have hep3 : ¬ 1000000000 < ep := by omega
      clear heB hep0 hep1
      rw [Bool.true_and]
      cases hd
      · by_cases c9 : H.length = 0
        · have z9 : (H.length : Int) = 0 := by omega
          simp only [c9] at hW1 k0 ⊢
          clear z9
          go_enter Try.func15, Try.ntmps15
          go_wp2_with (first
            | (go_at_call 67; rw [← hW1]; clear hW1; refine (hES ⟨ep, pr, V, M, A, 0, aV, bV, oV, cV, aM, bM, oM, cM, aA, bA, oA, cA⟩ _ okE).mono ?_; rw [show enB (Ent.said ⟨ep, pr, V, M, A, 0, aV, bV, oV, cV, aM, bM, oM, cM, aA, bA, oA, cA⟩) = _ from HeB.out]; rintro x wa ⟨rfl, ba⟩; replace k0 := (ba.block _ (blk_lt k0)).trans k0; replace B1 := Rw.next B1 ba; clear ba; obtain ⟨p0, p1, p2, p3, p4, p5, p6, p7, p8, p9⟩ := ten k0))
          go_ret
          exact ⟨ret_bool (by simp [noN, c9]), B1⟩
        · have z9 : ¬ (H.length : Int) = 0 := by omega
          go_enter Try.func15, Try.ntmps15
          go_wp2_with (first
            | (go_at_call 67; rw [← hW1]; clear hW1; refine (hES ⟨ep, pr, V, M, A, 0, aV, bV, oV, cV, aM, bM, oM, cM, aA, bA, oA, cA⟩ _ okE).mono ?_; rw [show enB (Ent.said ⟨ep, pr, V, M, A, 0, aV, bV, oV, cV, aM, bM, oM, cM, aA, bA, oA, cA⟩) = _ from HeB.out]; rintro x wa ⟨rfl, ba⟩; replace k0 := (ba.block _ (blk_lt k0)).trans k0; replace B1 := Rw.next B1 ba; clear ba; obtain ⟨p0, p1, p2, p3, p4, p5, p6, p7, p8, p9⟩ := ten k0))
          go_ret
          exact ⟨ret_bool (by simp [noN, c9]), B1⟩
      · skip
        go_enter Try.func15, Try.ntmps15
        go_wp2_with (first
          | (go_at_call 67; rw [← hW1]; clear hW1; refine (hES ⟨ep, pr, V, M, A, 0, aV, bV, oV, cV, aM, bM, oM, cM, aA, bA, oA, cA⟩ _ okE).mono ?_; rw [show enB (Ent.said ⟨ep, pr, V, M, A, 0, aV, bV, oV, cV, aM, bM, oM, cM, aA, bA, oA, cA⟩) = _ from HeB.out]; rintro x wa ⟨rfl, ba⟩; replace k0 := (ba.block _ (blk_lt k0)).trans k0; replace B1 := Rw.next B1 ba; clear ba; obtain ⟨p0, p1, p2, p3, p4, p5, p6, p7, p8, p9⟩ := ten k0))
        go_ret
        exact ⟨ret_bool (by simp [noN]), B1⟩
  have z2 : ¬ kd = 2 := k2
  by_cases r0 : ¬ pr = 0
  · have nb : bodyB kd (ep, pr, V, M, A, 0) hd H = false := by unfold bodyB noR; simp [r0, k2]
    rw [nb]
    go_enter Try.func15, Try.ntmps15
    go_wp2
    go_ret
    exact ⟨rfl, below_alloc1 _ _⟩
  have rr0 : pr = 0 := by omega
  subst rr0
  by_cases r1 : ¬ V.length = 0
  · have nb : bodyB kd (ep, 0, V, M, A, 0) hd H = false := by unfold bodyB noR; simp [r1, k2]
    rw [nb]
    have z1 : (0 : Int) < (V.length : Int) := by omega
    go_enter Try.func15, Try.ntmps15
    go_wp2
    go_ret
    exact ⟨rfl, below_alloc1 _ _⟩
  have rr1 : V.length = 0 := by omega
  have zzr1 : ¬ (0 : Int) < (V.length : Int) := by omega
  by_cases r2 : ¬ M.length = 0
  · have nb : bodyB kd (ep, 0, V, M, A, 0) hd H = false := by unfold bodyB noR; simp [r2, k2]
    rw [nb]
    have z2 : (0 : Int) < (M.length : Int) := by omega
    go_enter Try.func15, Try.ntmps15
    go_wp2
    go_ret
    exact ⟨rfl, below_alloc1 _ _⟩
  have rr2 : M.length = 0 := by omega
  have zzr2 : ¬ (0 : Int) < (M.length : Int) := by omega
  by_cases r3 : ¬ A.length = 0
  · have nb : bodyB kd (ep, 0, V, M, A, 0) hd H = false := by unfold bodyB noR; simp [r3, k2]
    rw [nb]
    have z3 : (0 : Int) < (A.length : Int) := by omega
    go_enter Try.func15, Try.ntmps15
    go_wp2
    go_ret
    exact ⟨rfl, below_alloc1 _ _⟩
  have rr3 : A.length = 0 := by omega
  have zzr3 : ¬ (0 : Int) < (A.length : Int) := by omega
  have nr : noR 0 V M A = true := by simp [noR, rr1, rr2, rr3]
  by_cases k3 : kd = 3
  · subst k3
    have nb : bodyB 3 (ep, 0, V, M, A, 0) hd H = (upB 1000000000 ep && noN hd H) := by unfold bodyB; rw [if_neg (by omega), if_neg (by omega), if_pos rfl]; simp only [nr, Bool.true_and]
    rw [nb]
    clear nb nr
    by_cases e376 : ep < 0
    · skip
      go_enter Try.func15, Try.ntmps15
      go_wp2
      go_ret
      exact ⟨ret_bool (by simp [upB]; omega), below_alloc1 _ _⟩
    by_cases e382 : 1000000000 < ep
    · skip
      go_enter Try.func15, Try.ntmps15
      go_wp2
      go_ret
      exact ⟨ret_bool (by simp [upB]; omega), below_alloc1 _ _⟩
    have e1 : upB 1000000000 ep = true := by simp [upB]; omega
    rw [e1, Bool.true_and]
    clear e1
    cases hd
    · by_cases c9 : H.length = 0
      · have z9 : (H.length : Int) = 0 := by omega
        go_enter Try.func15, Try.ntmps15
        go_wp2
        go_ret
        exact ⟨ret_bool (by simp [noN, c9]), below_alloc1 _ _⟩
      · have z9 : ¬ (H.length : Int) = 0 := by omega
        go_enter Try.func15, Try.ntmps15
        go_wp2
        go_ret
        exact ⟨ret_bool (by simp [noN, c9]), below_alloc1 _ _⟩
    · skip
      go_enter Try.func15, Try.ntmps15
      go_wp2
      go_ret
      exact ⟨ret_bool (by simp [noN]), below_alloc1 _ _⟩
  by_cases c0 : ¬ ep = 0
  · have nb : bodyB kd (ep, 0, V, M, A, 0) hd H = false := by unfold bodyB; simp [c0, k2, k3]
    rw [nb]
    have n2 : (kd != 2) = true := by simp [k2]
    have n3 : (kd != 3) = true := by simp [k3]
    have n0 : (ep != 0) = true := by simp [c0]
    go_enter Try.func15, Try.ntmps15
    go_wp2
    go_ret
    exact ⟨rfl, below_alloc1 _ _⟩
  have cc0 : ep = 0 := by omega
  subst cc0
  by_cases k5 : kd = 5
  · subst k5
    have nb : bodyB 5 (0, 0, V, M, A, 0) hd H = Hg.headB H := by unfold bodyB; rw [if_neg (by omega), if_neg (by omega), if_neg (by omega), if_pos rfl]; simp only [nr, Bool.true_and]; simp
    rw [nb]
    clear nb nr
    simp only [rr1, rr2, rr3] at hW1 k0 ⊢
    go_enter Try.func15, Try.ntmps15
    go_wp2_with (first
      | (go_at_call 68; rw [← hW1]; clear hW1; refine (Hg.specOk_any _ _ _ _ H _ rH).mono ?_; rintro x wa ⟨rfl, ba⟩; replace k0 := (ba.block _ (blk_lt k0)).trans k0; replace B1 := Rw.next B1 ba; clear ba))
    go_ret
    exact ⟨rfl, B1⟩
  have nb : bodyB kd (0, 0, V, M, A, 0) hd H = noN hd H := by unfold bodyB; rw [if_pos (by omega)]; simp only [nr, Bool.true_and]; simp
  rw [nb]
  clear nb nr
  cases hd
  · by_cases c9 : H.length = 0
    · have z9 : (H.length : Int) = 0 := by omega
      go_enter Try.func15, Try.ntmps15
      go_wp2
      go_ret
      exact ⟨ret_bool (by simp [noN, c9]), below_alloc1 _ _⟩
    · have z9 : ¬ (H.length : Int) = 0 := by omega
      go_enter Try.func15, Try.ntmps15
      go_wp2
      go_ret
      exact ⟨ret_bool (by simp [noN, c9]), below_alloc1 _ _⟩
  · skip
    go_enter Try.func15, Try.ntmps15
    go_wp2
    go_ret
    exact ⟨ret_bool (by simp [noN]), below_alloc1 _ _⟩
end Go.Proofs.Ytcbhpmgjmpbpmaa.Ga
