/-
  Whether an entry is right, by the program and by the specification; tables held alike.
-/
import Derived.Test.YtcbgnfjnjfaacaaEe
import Derived.Test.YtcbgnfjnjfaacaaNa
import Derived.Test.YtcbgnfjnjfaacaaYg
namespace Go.Proofs.Ytcbgnfjnjfaacaa.Ea
set_option maxRecDepth 8000
set_option linter.unusedSimpArgs false
set_option linter.unusedVariables false
open Go Go.RowKit
open Num Pl

set_option maxHeartbeats 1000000 in
theorem eqT_same (q : Int) (a a' : Option Addr) (b off c b' off' c' : Nat) (Q F : List Ent) (w : World) (hQ : Rd w a b off Q) (hF : Rd w a' b' off' F) (hs : Q.map Ent.said = F.map Ent.said) :
    Calls Try.prog 41 #[.agg #[.int .i64 q, .slice a Q.length c], .agg #[.int .i64 q, .slice a' F.length c']] w fun x w' => x = .returned (.bool true) ∧ Below w.heap.size w w' := by
  obtain ⟨W1, hW1⟩ : ∃ W1, W1 = (w.alloc (.cells #[.int .i64 q, .slice a Q.length c] 38)).alloc (.cells #[.int .i64 q, .slice a' F.length c'] 38) := ⟨_, rfl⟩
  have B1 : Below w.heap.size w W1 := by subst hW1; exact Rw.next (below_alloc1 _ _) (below_alloc1 _ _)
  replace hQ := hQ.below B1
  replace hF := hF.below B1
  go_enter Try.func41, Try.ntmps41
  go_wp2_with (go_at_call 110; rw [← hW1]; clear hW1; refine (eqS_same _ _ _ _ _ _ _ _ Q F _ hQ hF hs).mono ?_; rintro x wa ⟨rfl, ba⟩)
  go_ret
  exact ⟨rfl, Rw.next B1 ba⟩

def upB (m n : Int) : Bool := decide (0 ≤ n) && decide (n ≤ m)
theorem upTo_any (m n : Int) (w : World) : Calls Try.prog 91 #[.int .i64 m, .int .i64 n] w fun e w' => e = .returned (.bool (upB m n)) ∧ w' = w := by
  by_cases h0 : 0 ≤ n
  · go_enter Try.func91, Try.ntmps91
    go_wp2
    go_ret
    exact ⟨ret_bool (by simp [upB, h0]), rfl⟩
  · go_enter Try.func91, Try.ntmps91
    go_wp2
    go_ret
    exact ⟨ret_bool (by simp [upB]; omega), rfl⟩

/-- Is an entry right? -/
def enB (x : En) : Bool := upB 1000000000 x.1 && (upB 65535 x.2.1 && (upB 1000000000 x.2.2.2.2.2 && (Po.matchB x.2.2.1 x.2.2.2.1 && Yd.actsB x.2.2.2.2.1)))

set_option maxHeartbeats 4000000 in
theorem okE_impl (e : Ent) (w : World) (h : e.Ok w) : Calls Try.prog 36 #[.agg e.vals] w fun x w' => x = .returned (.bool (enB e.said)) ∧ Below w.heap.size w w' := by
  obtain ⟨ep, pr, V, M, A, hh, aV, bV, oV, cV, aM, bM, oM, cM, aA, bA, oA, cA⟩ := e
  obtain ⟨rV, rM, rA, wV, wM⟩ := h
  simp only at rV rM rA wV wM
  simp only [Ent.vals, enB, Ent.said]
  obtain ⟨W1, hW1⟩ : ∃ W1, W1 = w.alloc (.cells #[.int .i64 ep, .int .i64 pr, .slice aV V.length cV, .slice aM M.length cM, .slice aA A.length cA, .int .i64 hh] 41) := ⟨_, rfl⟩
  have B1 : Below w.heap.size w W1 := by subst hW1; exact below_alloc1 _ _
  have k0 : W1.heap[w.heap.size]? = some (.cells #[.int .i64 ep, .int .i64 pr, .slice aV V.length cV, .slice aM M.length cM, .slice aA A.length cA, .int .i64 hh] 41 (0, 0)) := by subst hW1; exact at_new rfl
  replace rV := rV.below B1
  replace rM := rM.below B1
  replace rA := rA.below B1
  generalize hb1 : upB 1000000000 ep = b1
  generalize hb2 : upB 65535 pr = b2
  generalize hb3 : upB 1000000000 hh = b3
  generalize hb4 : Po.matchB V M = b4
  generalize hb5 : Yd.actsB A = b5
  have Hb1 : Hid (upB 1000000000 ep = b1) := hb1
  have Hb2 : Hid (upB 65535 pr = b2) := hb2
  have Hb3 : Hid (upB 1000000000 hh = b3) := hb3
  have Hb4 : Hid (Po.matchB V M = b4) := hb4
  have Hb5 : Hid (Yd.actsB A = b5) := hb5
  clear hb1 hb2 hb3 hb4 hb5
  cases b1
  · have t1 : True := trivial
    go_enter Try.func36, Try.ntmps36
    go_wp2_with (first
      | (go_at_call 91; clear t1; rw [← hW1]; clear hW1; refine (upTo_any _ _ _).mono ?_; rw [Hb1.out]; rintro x wa ⟨rfl, hw⟩; replace hw := hw.symm; subst hw; obtain ⟨p0, p1, p2, p3, p4, p5⟩ := six k0; have t2 : True := trivial))
    go_ret
    exact ⟨ret_bool (by simp), B1⟩
  · skip
    cases b2
    · have t1 : True := trivial
      go_enter Try.func36, Try.ntmps36
      go_wp2_with (first
      | (go_at_call 91; clear t1; rw [← hW1]; clear hW1; refine (upTo_any _ _ _).mono ?_; rw [Hb1.out]; rintro x wa ⟨rfl, hw⟩; replace hw := hw.symm; subst hw; obtain ⟨p0, p1, p2, p3, p4, p5⟩ := six k0; have t2 : True := trivial)
      | (go_at_call 91; clear t2; refine (upTo_any _ _ _).mono ?_; rw [Hb2.out]; rintro x wa ⟨rfl, hw⟩; replace hw := hw.symm; subst hw; have t3 : True := trivial))
      go_ret
      exact ⟨ret_bool (by simp), B1⟩
    · skip
      cases b3
      · have t1 : True := trivial
        go_enter Try.func36, Try.ntmps36
        go_wp2_with (first
      | (go_at_call 91; clear t1; rw [← hW1]; clear hW1; refine (upTo_any _ _ _).mono ?_; rw [Hb1.out]; rintro x wa ⟨rfl, hw⟩; replace hw := hw.symm; subst hw; obtain ⟨p0, p1, p2, p3, p4, p5⟩ := six k0; have t2 : True := trivial)
      | (go_at_call 91; clear t2; refine (upTo_any _ _ _).mono ?_; rw [Hb2.out]; rintro x wa ⟨rfl, hw⟩; replace hw := hw.symm; subst hw; have t3 : True := trivial)
      | (go_at_call 91; clear t3; refine (upTo_any _ _ _).mono ?_; rw [Hb3.out]; rintro x wa ⟨rfl, hw⟩; replace hw := hw.symm; subst hw))
        go_ret
        exact ⟨ret_bool (by simp), B1⟩
      · skip
        cases b4
        · have t1 : True := trivial
          go_enter Try.func36, Try.ntmps36
          go_wp2_with (first
      | (go_at_call 91; clear t1; rw [← hW1]; clear hW1; refine (upTo_any _ _ _).mono ?_; rw [Hb1.out]; rintro x wa ⟨rfl, hw⟩; replace hw := hw.symm; subst hw; obtain ⟨p0, p1, p2, p3, p4, p5⟩ := six k0; have t2 : True := trivial)
      | (go_at_call 91; clear t2; refine (upTo_any _ _ _).mono ?_; rw [Hb2.out]; rintro x wa ⟨rfl, hw⟩; replace hw := hw.symm; subst hw; have t3 : True := trivial)
      | (go_at_call 91; clear t3; refine (upTo_any _ _ _).mono ?_; rw [Hb3.out]; rintro x wa ⟨rfl, hw⟩; replace hw := hw.symm; subst hw)
      | (go_at_call 85; refine (Mi.ok_any _ _ _ _ _ _ _ _ V M _ rV rM wV).mono ?_; rw [Hb4.out]; rintro x wa ⟨rfl, ba⟩; replace k0 := (ba.block _ (blk_lt k0)).trans k0; clear p0 p1 p2 p3 p4 p5; obtain ⟨p0, p1, p2, p3, p4, p5⟩ := six k0; replace rA := rA.below ba; replace B1 := Rw.next B1 ba; clear ba))
          go_ret
          exact ⟨ret_bool (by simp), B1⟩
        · skip
          have t1 : True := trivial
          go_enter Try.func36, Try.ntmps36
          go_wp2_with (first
      | (go_at_call 91; clear t1; rw [← hW1]; clear hW1; refine (upTo_any _ _ _).mono ?_; rw [Hb1.out]; rintro x wa ⟨rfl, hw⟩; replace hw := hw.symm; subst hw; obtain ⟨p0, p1, p2, p3, p4, p5⟩ := six k0; have t2 : True := trivial)
      | (go_at_call 91; clear t2; refine (upTo_any _ _ _).mono ?_; rw [Hb2.out]; rintro x wa ⟨rfl, hw⟩; replace hw := hw.symm; subst hw; have t3 : True := trivial)
      | (go_at_call 91; clear t3; refine (upTo_any _ _ _).mono ?_; rw [Hb3.out]; rintro x wa ⟨rfl, hw⟩; replace hw := hw.symm; subst hw)
      | (go_at_call 85; refine (Mi.ok_any _ _ _ _ _ _ _ _ V M _ rV rM wV).mono ?_; rw [Hb4.out]; rintro x wa ⟨rfl, ba⟩; replace k0 := (ba.block _ (blk_lt k0)).trans k0; clear p0 p1 p2 p3 p4 p5; obtain ⟨p0, p1, p2, p3, p4, p5⟩ := six k0; replace rA := rA.below ba; replace B1 := Rw.next B1 ba; clear ba)
      | (go_at_call 106; refine (Yg.actsI _ _ _ _ A _ rA).mono ?_; rw [Hb5.out]; rintro x wa ⟨rfl, ba⟩; replace B1 := Rw.next B1 ba; clear ba))
          go_ret
          exact ⟨ret_bool (by simp), B1⟩

set_option maxHeartbeats 4000000 in
theorem okE_spec (e : Ent) (w : World) (h : e.Ok w) : Calls Try.prog 34 #[.agg e.vals] w fun x w' => x = .returned (.bool (enB e.said)) ∧ Below w.heap.size w w' := by
  obtain ⟨ep, pr, V, M, A, hh, aV, bV, oV, cV, aM, bM, oM, cM, aA, bA, oA, cA⟩ := e
  obtain ⟨rV, rM, rA, wV, wM⟩ := h
  simp only at rV rM rA wV wM
  simp only [Ent.vals, enB, Ent.said]
  obtain ⟨W1, hW1⟩ : ∃ W1, W1 = w.alloc (.cells #[.int .i64 ep, .int .i64 pr, .slice aV V.length cV, .slice aM M.length cM, .slice aA A.length cA, .int .i64 hh] 41) := ⟨_, rfl⟩
  have B1 : Below w.heap.size w W1 := by subst hW1; exact below_alloc1 _ _
  have k0 : W1.heap[w.heap.size]? = some (.cells #[.int .i64 ep, .int .i64 pr, .slice aV V.length cV, .slice aM M.length cM, .slice aA A.length cA, .int .i64 hh] 41 (0, 0)) := by subst hW1; exact at_new rfl
  replace rV := rV.below B1
  replace rM := rM.below B1
  replace rA := rA.below B1
  generalize hb4 : Po.matchB V M = b4
  generalize hb5 : Yd.actsB A = b5
  have Hb4 : Hid (Po.matchB V M = b4) := hb4
  have Hb5 : Hid (Yd.actsB A = b5) := hb5
  clear hb4 hb5
  by_cases c0 : ep < 0
  · go_enter Try.func34, Try.ntmps34
    go_wp2
    go_ret
    exact ⟨ret_bool (by simp [upB]; omega), below_alloc1 _ _⟩
  by_cases c1 : 1000000000 < ep
  · go_enter Try.func34, Try.ntmps34
    go_wp2
    go_ret
    exact ⟨ret_bool (by simp [upB]; omega), below_alloc1 _ _⟩
  by_cases c2 : pr < 0
  · go_enter Try.func34, Try.ntmps34
    go_wp2
    go_ret
    exact ⟨ret_bool (by simp [upB]; omega), below_alloc1 _ _⟩
  by_cases c3 : 65535 < pr
  · go_enter Try.func34, Try.ntmps34
    go_wp2
    go_ret
    exact ⟨ret_bool (by simp [upB]; omega), below_alloc1 _ _⟩
  by_cases c4 : hh < 0
  · go_enter Try.func34, Try.ntmps34
    go_wp2
    go_ret
    exact ⟨ret_bool (by simp [upB]; omega), below_alloc1 _ _⟩
  by_cases c5 : 1000000000 < hh
  · go_enter Try.func34, Try.ntmps34
    go_wp2
    go_ret
    exact ⟨ret_bool (by simp [upB]; omega), below_alloc1 _ _⟩
  have e1 : upB 1000000000 ep = true := by simp [upB]; omega
  have e2 : upB 65535 pr = true := by simp [upB]; omega
  have e3 : upB 1000000000 hh = true := by simp [upB]; omega
  rw [e1, e2, e3]
  clear e1 e2 e3
  cases b4
  · go_enter Try.func34, Try.ntmps34
    go_wp2_with (go_at_call 62; rw [← hW1]; clear hW1; refine (Ms.okS_any _ _ _ _ _ _ _ _ V M _ rV rM wV).mono ?_; rw [Hb4.out]; rintro x wa ⟨rfl, ba⟩; replace k0 := (ba.block _ (blk_lt k0)).trans k0; obtain ⟨p0, p1, p2, p3, p4, p5⟩ := six k0; replace rA := rA.below ba; replace B1 := Rw.next B1 ba; clear ba)
    go_ret
    exact ⟨ret_bool (by simp), B1⟩
  · go_enter Try.func34, Try.ntmps34
    go_wp2_with (first
      | (go_at_call 62; rw [← hW1]; clear hW1; refine (Ms.okS_any _ _ _ _ _ _ _ _ V M _ rV rM wV).mono ?_; rw [Hb4.out]; rintro x wa ⟨rfl, ba⟩; replace k0 := (ba.block _ (blk_lt k0)).trans k0; obtain ⟨p0, p1, p2, p3, p4, p5⟩ := six k0; replace rA := rA.below ba; replace B1 := Rw.next B1 ba; clear ba)
      | (go_at_call 104; refine (Ye.actsS _ _ _ _ A _ rA).mono ?_; rw [Hb5.out]; rintro x wa ⟨rfl, ba⟩; replace B1 := Rw.next B1 ba; clear ba))
    go_ret
    exact ⟨ret_bool (by simp), B1⟩

end Go.Proofs.Ytcbgnfjnjfaacaa.Ea
