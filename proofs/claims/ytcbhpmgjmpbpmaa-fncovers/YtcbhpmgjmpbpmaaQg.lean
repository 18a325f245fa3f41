/-
  Contracts laid together (Ja, Jb, Jc, Jd, Je, Jf, Jg, Jh, Lk, Jm).
-/
import Derived.Test.YtcbhpmgjmpbpmaaQf
namespace Go.Proofs.Ytcbhpmgjmpbpmaa.Ja
open Go Go.RowKit
set_option maxRecDepth 8000
set_option linter.unusedSimpArgs false
set_option linter.unusedVariables false
open Num Pl Rw Mk Un Put App Ea Ga

/-- A number in z bytes. -/
def dg (n : Int) (z : Nat) : List Int := digs n.toNat z z
theorem dg_len (n : Int) (z : Nat) : (dg n z).length = z := digs_len _ _ _
theorem dg_byt (n : Int) (z : Nat) : Byt (dg n z) := digs_byt _ _ _
def pairsL (V M : List Int) : Nat → List Int
  | 0 => []
  | k + 1 => pairsL V M k ++ dg (V.getD k 0) 6 ++ dg (M.getD k 0) 6
theorem pairsL_len (V M : List Int) (k : Nat) : (pairsL V M k).length = 12 * k := by
  induction k with
  | zero => rfl
  | succ k ih => simp only [pairsL, List.length_append, dg_len, ih]; omega
theorem pairsL_byt (V M : List Int) (k : Nat) : Byt (pairsL V M k) := by
  induction k with
  | zero => intro x h; simp [pairsL] at h
  | succ k ih => exact byt_app (byt_app ih (dg_byt _ _)) (dg_byt _ _)
def actsL (A : List Yb.A3) : Nat → List Int
  | 0 => []
  | k + 1 => actsL A k ++ dg (A.getD k Yb.z3).1 1 ++ dg (A.getD k Yb.z3).2.1 1 ++ dg (A.getD k Yb.z3).2.2 6
theorem actsL_len (A : List Yb.A3) (k : Nat) : (actsL A k).length = 8 * k := by
  induction k with
  | zero => rfl
  | succ k ih => simp only [actsL, List.length_append, dg_len, ih]; omega
theorem actsL_byt (A : List Yb.A3) (k : Nat) : Byt (actsL A k) := by
  induction k with
  | zero => intro x h; simp [actsL] at h
  | succ k ih => exact byt_app (byt_app (byt_app ih (dg_byt _ _)) (dg_byt _ _)) (dg_byt _ _)
def headL (H : List Int) : Nat → List Int
  | 0 => []
  | k + 1 => headL H k ++ dg (H.getD k 0) 6
theorem headL_len (H : List Int) (k : Nat) : (headL H k).length = 6 * k := by
  induction k with
  | zero => rfl
  | succ k ih => simp only [headL, List.length_append, dg_len, ih]; omega
theorem headL_byt (H : List Int) (k : Nat) : Byt (headL H k) := by
  induction k with
  | zero => intro x h; simp [headL] at h
  | succ k ih => exact byt_app ih (dg_byt _ _)
/-- What stands behind the head. -/
def addL (ep pr : Int) (V M : List Int) (A : List Yb.A3) : List Int := dg ep 4 ++ dg pr 2 ++ pairsL V M 8 ++ dg (A.length : Int) 1 ++ actsL A A.length
def noteL (hd : Bool) (H : List Int) : List Int := dg (if hd then 1 else 0) 1 ++ headL H 8
def bodyL (x : Said) : List Int := if x.1 = 2 then addL x.2.2.2.1.1 x.2.2.2.1.2.1 x.2.2.2.1.2.2.1 x.2.2.2.1.2.2.2.1 x.2.2.2.1.2.2.2.2.1 else if x.1 = 3 then dg x.2.2.2.1.1 4 else if x.1 = 5 then noteL x.2.2.2.2.1 x.2.2.2.2.2 else []
def frontL (x : Said) : List Int := dg 1 1 ++ dg x.1 1 ++ dg (12 + ((bodyL x).length : Int)) 2 ++ dg x.2.1 4 ++ dg x.2.2.1 4
def msgL (x : Said) : List Int := frontL x ++ bodyL x
theorem addL_len (ep pr : Int) (V M : List Int) (A : List Yb.A3) : (addL ep pr V M A).length = 103 + 8 * A.length := by
  simp only [addL, List.length_append, dg_len, pairsL_len, actsL_len] <;> omega
theorem addL_byt (ep pr : Int) (V M : List Int) (A : List Yb.A3) : Byt (addL ep pr V M A) := byt_app (byt_app (byt_app (byt_app (dg_byt _ _) (dg_byt _ _)) (pairsL_byt _ _ _)) (dg_byt _ _)) (actsL_byt _ _)
theorem noteL_len (hd : Bool) (H : List Int) : (noteL hd H).length = 49 := by simp only [noteL, List.length_append, dg_len, headL_len]
theorem noteL_byt (hd : Bool) (H : List Int) : Byt (noteL hd H) := byt_app (dg_byt _ _) (headL_byt _ _)
theorem bodyL_byt (x : Said) : Byt (bodyL x) := by
  unfold bodyL
  split
  · exact addL_byt _ _ _ _ _
  split
  · exact dg_byt _ _
  split
  · exact noteL_byt _ _
  · intro x h; simp at h
theorem frontL_byt (x : Said) : Byt (frontL x) := byt_app (byt_app (byt_app (byt_app (dg_byt _ _) (dg_byt _ _)) (dg_byt _ _)) (dg_byt _ _)) (dg_byt _ _)
theorem frontL_len (x : Said) : (frontL x).length = 12 := by simp only [frontL, List.length_append, dg_len]
theorem msgL_byt (x : Said) : Byt (msgL x) := byt_app (frontL_byt x) (bodyL_byt x)

theorem fit1 {n : Int} (h0 : 0 ≤ n) (h : n ≤ 255) : numOkB n 1 = true := by unfold numOkB; rw [decide_eq_true]; refine ⟨by omega, by omega, h0, ?_⟩; show n < ((256 ^ 1 : Nat) : Int); omega
theorem fit2 {n : Int} (h0 : 0 ≤ n) (h : n ≤ 65535) : numOkB n 2 = true := by unfold numOkB; rw [decide_eq_true]; refine ⟨by omega, by omega, h0, ?_⟩; show n < ((256 ^ 2 : Nat) : Int); omega
theorem fit4 {n : Int} (h0 : 0 ≤ n) (h : n ≤ 4294967295) : numOkB n 4 = true := by unfold numOkB; rw [decide_eq_true]; refine ⟨by omega, by omega, h0, ?_⟩; show n < ((256 ^ 4 : Nat) : Int); omega
theorem fit6 {n : Int} (h0 : 0 ≤ n) (h : n < 281474976710656) : numOkB n 6 = true := by unfold numOkB; rw [decide_eq_true]; refine ⟨by omega, by omega, h0, ?_⟩; show n < ((256 ^ 6 : Nat) : Int); omega

theorem upto_at {l : List Int} : ∀ {k j : Nat}, Hg.upto l k = true → j < k → Hg.fits j (l.getD j 0) = true
  | 0, _, _, h => by omega
  | k + 1, j, h, hj => by
    simp only [Hg.upto, Bool.and_eq_true] at h
    by_cases e : j = k
    · subst e; exact h.2
    · exact upto_at h.1 (by omega)
theorem head_fit {H : List Int} (h : Hg.headB H = true) : H.length = 8 ∧ ∀ k, k < 8 → numOkB (H.getD k 0) 6 = true := by
  unfold Hg.headB at h
  simp only [Bool.and_eq_true, decide_eq_true_eq] at h
  exact ⟨h.1, fun k hk => by have := Pm.fits_lt (upto_at h.2 hk); exact fit6 this.1 this.2⟩
theorem uptoP_at {V M : List Int} : ∀ {k j : Nat}, Po.uptoP V M k = true → j < k → Pm.pairB j (V.getD j 0) (M.getD j 0) = true
  | 0, _, _, h => by omega
  | k + 1, j, h, hj => by
    simp only [Po.uptoP, Bool.and_eq_true] at h
    by_cases e : j = k
    · subst e; exact h.2
    · exact uptoP_at h.1 (by omega)
theorem or_le {a b : Nat} (h : a ||| b = b) : a ≤ b := by rw [← h]; exact Nat.left_le_or
theorem match_fit {V M : List Int} (h : Po.matchB V M = true) : V.length = 8 ∧ M.length = 8 ∧ ∀ k, k < 8 → numOkB (V.getD k 0) 6 = true ∧ numOkB (M.getD k 0) 6 = true := by
  unfold Po.matchB at h
  simp only [Bool.and_eq_true, decide_eq_true_eq] at h
  refine ⟨h.1.1, h.1.2, fun k hk => ?_⟩
  have hp := uptoP_at h.2 hk
  unfold Pm.pairB at hp
  simp only [Bool.and_eq_true, decide_eq_true_eq] at hp
  have h1 := Pm.fits_lt hp.1
  have h2 := or_le hp.2.2
  exact ⟨fit6 hp.2.1 (by omega), fit6 h1.1 h1.2⟩
theorem act_fit {x : Yb.A3} (h : Yd.actB x = true) : numOkB x.1 1 = true ∧ numOkB x.2.1 1 = true ∧ numOkB x.2.2 6 = true := by
  unfold Yd.actB at h
  split at h
  · rename_i h1
    simp only [decide_eq_true_eq] at h
    exact ⟨fit1 (by omega) (by omega), fit1 (by omega) (by omega), fit6 (by omega) (by omega)⟩
  split at h
  · simp only [Bool.and_eq_true, decide_eq_true_eq] at h
    exact ⟨fit1 (by omega) (by omega), fit1 (by omega) (by omega), h.2⟩
  · simp only [decide_eq_true_eq] at h
    exact ⟨fit1 (by omega) (by omega), fit1 (by omega) (by omega), fit6 (by omega) (by omega)⟩
theorem acts_fit {A : List Yb.A3} (h : Yd.actsB A = true) : A.length ≤ 12 ∧ ∀ k, k < A.length → numOkB (A.getD k Yb.z3).1 1 = true ∧ numOkB (A.getD k Yb.z3).2.1 1 = true ∧ numOkB (A.getD k Yb.z3).2.2 6 = true := by
  unfold Yd.actsB at h
  simp only [decide_eq_true_eq] at h
  exact ⟨h.1, fun k hk => act_fit (h.2 k hk)⟩
/-- What a right message gives. -/
structure Fit (x : Said) : Prop where
  kd : 1 ≤ x.1 ∧ x.1 ≤ 6
  se : numOkB x.2.1 4 = true
  xi : numOkB x.2.2.1 4 = true
  add : x.1 = 2 → numOkB x.2.2.2.1.1 4 = true ∧ numOkB x.2.2.2.1.2.1 2 = true ∧ Po.matchB x.2.2.2.1.2.2.1 x.2.2.2.1.2.2.2.1 = true ∧ Yd.actsB x.2.2.2.1.2.2.2.2.1 = true
  flip : x.1 = 3 → numOkB x.2.2.2.1.1 4 = true
  note : x.1 = 5 → Hg.headB x.2.2.2.2.2 = true
theorem up_iff {m n : Int} (h : upB m n = true) : 0 ≤ n ∧ n ≤ m := by unfold upB at h; simpa using h
theorem fit_of {x : Said} (h : msgB x = true) : Fit x := by
  unfold msgB at h
  simp only [Bool.and_eq_true] at h
  obtain ⟨h1, h2, h3⟩ := h
  have u1 := up_iff h1
  have u2 := up_iff h2
  unfold bodyB at h3
  have k : 1 ≤ x.1 ∧ x.1 ≤ 6 := by
    by_cases a1 : x.1 = 1 ∨ x.1 = 4 ∨ x.1 = 6
    · omega
    by_cases a2 : x.1 = 2
    · omega
    by_cases a3 : x.1 = 3
    · omega
    by_cases a5 : x.1 = 5
    · omega
    · rw [if_neg a1, if_neg a2, if_neg a3, if_neg a5] at h3; cases h3
  refine ⟨k, fit4 u1.1 (by omega), fit4 u2.1 u2.2, fun e => ?_, fun e => ?_, fun e => ?_⟩
  · rw [if_neg (by omega), if_pos e] at h3
    simp only [Bool.and_eq_true] at h3
    have h4 := h3.1
    unfold enB at h4
    simp only [Bool.and_eq_true] at h4
    obtain ⟨e1, e2, e3, e4, e5⟩ := h4
    have v1 := up_iff e1
    have v2 := up_iff e2
    exact ⟨fit4 v1.1 (by omega), fit2 v2.1 v2.2, e4, e5⟩
  · rw [if_neg (by omega), if_neg (by omega), if_pos e] at h3
    simp only [Bool.and_eq_true] at h3
    have v1 := up_iff h3.1
    exact fit4 v1.1 (by omega)
  · rw [if_neg (by omega), if_neg (by omega), if_neg (by omega), if_pos e] at h3
    simp only [Bool.and_eq_true] at h3
    exact h3.2.2
theorem bodyL_len {x : Said} (h : Fit x) : (bodyL x).length ≤ 199 := by
  unfold bodyL
  split
  · rename_i e
    have := (acts_fit (h.add e).2.2.2).1
    rw [addL_len]; omega
  split
  · rw [dg_len]; omega
  split
  · rw [noteL_len]; omega
  · simp

end Go.Proofs.Ytcbhpmgjmpbpmaa.Ja
namespace Go.Proofs.Ytcbhpmgjmpbpmaa.Ja
open Go Go.RowKit
set_option maxRecDepth 8000
set_option linter.unusedSimpArgs false
set_option linter.unusedVariables false
open Num Pl Rw Mk Un Put App Ea Ga

theorem eleven {w : World} {g : Nat} {v0 v1 v2 v3 v4 v5 v6 v7 v8 v9 v10 : Value} {t : TypeId} {fr : Nat × Nat} (k : w.heap[g]? = some (.cells #[v0, v1, v2, v3, v4, v5, v6, v7, v8, v9, v10] t fr)) :
    w.cell? ⟨g, 0, none⟩ = some v0 ∧ w.cell? ⟨g, 1, none⟩ = some v1 ∧ w.cell? ⟨g, 2, none⟩ = some v2 ∧ w.cell? ⟨g, 3, none⟩ = some v3 ∧ w.cell? ⟨g, 4, none⟩ = some v4 ∧ w.cell? ⟨g, 5, none⟩ = some v5 ∧ w.cell? ⟨g, 6, none⟩ = some v6 ∧ w.cell? ⟨g, 7, none⟩ = some v7 ∧ w.cell? ⟨g, 8, none⟩ = some v8 ∧ w.cell? ⟨g, 9, none⟩ = some v9 ∧ w.cell? ⟨g, 10, none⟩ = some v10 := by
  simp [World.cell?, k]
theorem onlyT {g : Nat} {w w1 w2 : World} (h : Only g w w1) (h' : Only g w1 w2) : Only g w w2 :=
  ⟨h'.os.trans h.os, h'.tape.trans h.tape, h'.output.trans h.output, Nat.le_trans h.size h'.size, fun k hk hne => (h'.block k (Nat.lt_of_lt_of_le hk h.size) hne).trans (h.block k hk hne)⟩
theorem onlyB {g : Nat} {w w1 : World} (h : Below w.heap.size w w1) : Only g w w1 := ⟨h.os, h.tape, h.output, h.size, fun k hk _ => h.block k hk⟩
theorem rdN_only {g : Nat} {w w' : World} {a : Option Addr} {b off : Nat} {l : List Int} (h : Only g w w') (hr : Hr.Rd w a b off l) (hne : b ≠ g) : Hr.Rd w' a b off l :=
  ⟨hr.head, fun i hi => h.cell (hr.cell i hi) (by simpa using hne), hr.size⟩
theorem rdA_only {g : Nat} {w w' : World} {a : Option Addr} {b off : Nat} {l : List Yb.A3} (h : Only g w w') (hr : Yb.Rd w a b off l) (hne : b ≠ g) : Yb.Rd w' a b off l :=
  ⟨hr.head, fun i hi => ⟨h.cell (hr.cell i hi).1 (by simpa using hne), h.cell (hr.cell i hi).2.1 (by simpa using hne), h.cell (hr.cell i hi).2.2 (by simpa using hne)⟩, hr.size⟩

/-- What has been written so far: nothing yet, or bytes of the call's own. -/
def Out (w : World) (B : Nat) (v : Value) (l : List Int) : Prop := (v = .slice none 0 0 ∧ l = []) ∨ HasI w B v l
theorem with_out (v : Value) (B : Nat) (l : List Int) (n : Int) (z : Nat) (w : World) (h : Out w B v l) (hs : l.length ≤ 1000) (hy : Byt l) (hn : numOkB n z = true) (hz : z ≤ 6) :
    Calls Try.prog 196 #[v, .int .i64 n, .int .i64 z] w fun e w' => ∃ v', e = .returned v' ∧ HasI w' w.heap.size v' (l ++ dg n z) ∧ Below w.heap.size w w' := by
  rcases h with ⟨rfl, rfl⟩ | h
  · have := with_nil n z w hn
    simpa [dg] using this
  · have := with_own v B l n z w h (by omega) hy hn (by omega)
    simpa [dg] using this

/-- The writer's block, with what has been written. -/
def Wr (w : World) (g B : Nat) (c0 c1 c2 c3 c4 c5 c6 c7 c8 c9 : Value) (l : List Int) : Prop := ∃ v, w.heap[g]? = some (.cells #[c0, c1, c2, c3, c4, c5, c6, c7, c8, c9, v] 102 (0, 0)) ∧ HasI w B v l
set_option maxHeartbeats 1000000 in
theorem num_any (g B : Nat) (c0 c1 c2 c3 c4 c5 c6 c7 c8 c9 v : Value) (l : List Int) (n : Int) (z : Nat) (w : World) (k : w.heap[g]? = some (.cells #[c0, c1, c2, c3, c4, c5, c6, c7, c8, c9, v] 102 (0, 0))) (h : Out w B v l) (hB : B ≤ w.heap.size) (hs : l.length ≤ 1000) (hy : Byt l) (hn : numOkB n z = true) (hz : z ≤ 6) :
    Calls Try.prog 156 #[.pointer (some ⟨g, 0, none⟩), .int .i64 n, .int .i64 z] w fun e w' => e = .returned (.tuple #[]) ∧ Wr w' g B c0 c1 c2 c3 c4 c5 c6 c7 c8 c9 (l ++ dg n z) ∧ Only g w w' := by
  obtain ⟨p0, p1, p2, p3, p4, p5, p6, p7, p8, p9, p10⟩ := eleven k
  have kl := blk_lt k
  have hc := with_out v B l n z w h hs hy hn hz
  have hyL : Byt (l ++ dg n z) := byt_app hy (dg_byt _ _)
  have hsL : (l ++ dg n z).length ≤ 4194304 := by simp [dg_len]; omega
  generalize l ++ dg n z = L at *
  have HYL : Hid (Byt L) := hyL
  have HSL : Hid (L.length ≤ 4194304) := hsL
  clear hyL hsL
  go_enter Try.func156, Try.ntmps156
  go_wp2_with (go_at_call 196; refine hc.mono ?_; rintro e w1 ⟨v', rfl, hv, hb⟩; obtain ⟨g1, cap1, rfl, hg1, hwt⟩ := hasI_form hv HSL.out HYL.out; have k1 := (hb.block _ kl).trans k; clear p0 p1 p2 p3 p4 p5 p6 p7 p8 p9 p10; obtain ⟨p0, p1, p2, p3, p4, p5, p6, p7, p8, p9, p10⟩ := eleven k1; have f1 := Bl.free k1)
  refine bodyPost_end (v := .tuple #[]) (by simp [results, Try.results156, go_sem]) rfl ⟨rfl, ⟨.slice (some ⟨g1, 0, none⟩) L.length cap1, ?_, ?_⟩, ?_⟩
  · have := blk_same (i := 10) (u := .slice (some ⟨g1, 0, none⟩) L.length cap1) k1
    simpa using this
  · refine hasI_mono ?_ hB
    have : HasI (w1.setCell ⟨g, 10, none⟩ (.slice (some ⟨g1, 0, none⟩) L.length cap1)) w.heap.size (.slice (some ⟨g1, 0, none⟩) L.length cap1) L := by
      refine ⟨⟨hv.1.1, ?_⟩, hv.2⟩
      rcases hv.1.2 with h0 | ⟨g2, cap, cur, e1, hb1, hg2, rest⟩
      · exact .inl h0
      · exact .inr ⟨g2, cap, cur, e1, hb1, blk_other hg2 (by omega), rest⟩
    exact this
  · exact (onlyB hb).set _
theorem Wr.out {w : World} {g B : Nat} {c0 c1 c2 c3 c4 c5 c6 c7 c8 c9 : Value} {l : List Int} (h : Wr w g B c0 c1 c2 c3 c4 c5 c6 c7 c8 c9 l) : ∃ v, w.heap[g]? = some (.cells #[c0, c1, c2, c3, c4, c5, c6, c7, c8, c9, v] 102 (0, 0)) ∧ Out w B v l := by
  obtain ⟨v, h1, h2⟩ := h
  exact ⟨v, h1, .inr h2⟩

end Go.Proofs.Ytcbhpmgjmpbpmaa.Ja
namespace Go.Proofs.Ytcbhpmgjmpbpmaa.Ja
open Go Go.RowKit
set_option maxRecDepth 8000
set_option linter.unusedSimpArgs false
set_option linter.unusedVariables false
open Num Pl Rw Mk Un Put App Ea Ga

theorem byt_nil : Byt [] := fun x h => by simp at h

theorem num1 (g B : Nat) (c0 c1 c2 c3 c4 c5 c6 c7 c8 c9 v : Value) (l : List Int) (n : Int) (w : World) (k : w.heap[g]? = some (.cells #[c0, c1, c2, c3, c4, c5, c6, c7, c8, c9, v] 102 (0, 0))) (h : Out w B v l) (hB : B ≤ w.heap.size) (hs : l.length ≤ 1000) (hy : Byt l) (hn : numOkB n 1 = true) :
    Calls Try.prog 156 #[.pointer (some ⟨g, 0, none⟩), .int .i64 n, .int .i64 1] w fun e w' => e = .returned (.tuple #[]) ∧ Wr w' g B c0 c1 c2 c3 c4 c5 c6 c7 c8 c9 (l ++ dg n 1) ∧ Only g w w' :=
  num_any g B c0 c1 c2 c3 c4 c5 c6 c7 c8 c9 v l n 1 w k h hB hs hy hn (by omega)

theorem num2 (g B : Nat) (c0 c1 c2 c3 c4 c5 c6 c7 c8 c9 v : Value) (l : List Int) (n : Int) (w : World) (k : w.heap[g]? = some (.cells #[c0, c1, c2, c3, c4, c5, c6, c7, c8, c9, v] 102 (0, 0))) (h : Out w B v l) (hB : B ≤ w.heap.size) (hs : l.length ≤ 1000) (hy : Byt l) (hn : numOkB n 2 = true) :
    Calls Try.prog 156 #[.pointer (some ⟨g, 0, none⟩), .int .i64 n, .int .i64 2] w fun e w' => e = .returned (.tuple #[]) ∧ Wr w' g B c0 c1 c2 c3 c4 c5 c6 c7 c8 c9 (l ++ dg n 2) ∧ Only g w w' :=
  num_any g B c0 c1 c2 c3 c4 c5 c6 c7 c8 c9 v l n 2 w k h hB hs hy hn (by omega)

theorem num4 (g B : Nat) (c0 c1 c2 c3 c4 c5 c6 c7 c8 c9 v : Value) (l : List Int) (n : Int) (w : World) (k : w.heap[g]? = some (.cells #[c0, c1, c2, c3, c4, c5, c6, c7, c8, c9, v] 102 (0, 0))) (h : Out w B v l) (hB : B ≤ w.heap.size) (hs : l.length ≤ 1000) (hy : Byt l) (hn : numOkB n 4 = true) :
    Calls Try.prog 156 #[.pointer (some ⟨g, 0, none⟩), .int .i64 n, .int .i64 4] w fun e w' => e = .returned (.tuple #[]) ∧ Wr w' g B c0 c1 c2 c3 c4 c5 c6 c7 c8 c9 (l ++ dg n 4) ∧ Only g w w' :=
  num_any g B c0 c1 c2 c3 c4 c5 c6 c7 c8 c9 v l n 4 w k h hB hs hy hn (by omega)

theorem num6 (g B : Nat) (c0 c1 c2 c3 c4 c5 c6 c7 c8 c9 v : Value) (l : List Int) (n : Int) (w : World) (k : w.heap[g]? = some (.cells #[c0, c1, c2, c3, c4, c5, c6, c7, c8, c9, v] 102 (0, 0))) (h : Out w B v l) (hB : B ≤ w.heap.size) (hs : l.length ≤ 1000) (hy : Byt l) (hn : numOkB n 6 = true) :
    Calls Try.prog 156 #[.pointer (some ⟨g, 0, none⟩), .int .i64 n, .int .i64 6] w fun e w' => e = .returned (.tuple #[]) ∧ Wr w' g B c0 c1 c2 c3 c4 c5 c6 c7 c8 c9 (l ++ dg n 6) ∧ Only g w w' :=
  num_any g B c0 c1 c2 c3 c4 c5 c6 c7 c8 c9 v l n 6 w k h hB hs hy hn (by omega)

set_option maxHeartbeats 4000000 in
theorem head_any (kd se xi ep pr : Int) (V M : List Int) (A : List Yb.A3) (hd : Bool) (H : List Int) (aV aM aA aH : Option Addr) (cV cM cA cH : Nat) (n : Int) (g : Nat) (w : World) (k : w.heap[g]? = some (.cells #[.int .i64 kd, .int .i64 se, .int .i64 xi, .int .i64 ep, .int .i64 pr, .slice aV V.length cV, .slice aM M.length cM, .slice aA A.length cA, .bool hd, .slice aH H.length cH, .slice none 0 0] 102 (0, 0))) (h1 : numOkB kd 1 = true) (h2 : numOkB n 2 = true) (h3 : numOkB se 4 = true) (h4 : numOkB xi 4 = true) :
    Calls Try.prog 66 #[.pointer (some ⟨g, 0, none⟩), .int .i64 n] w fun e w' => e = .returned (.tuple #[]) ∧ Wr w' g w.heap.size (.int .i64 kd) (.int .i64 se) (.int .i64 xi) (.int .i64 ep) (.int .i64 pr) (.slice aV V.length cV) (.slice aM M.length cM) (.slice aA A.length cA) (.bool hd) (.slice aH H.length cH) (dg 1 1 ++ dg kd 1 ++ dg n 2 ++ dg se 4 ++ dg xi 4) ∧ Only g w w' := by
  obtain ⟨p0, p1, p2, p3, p4, p5, p6, p7, p8, p9, p10⟩ := eleven k
  have ho : Out w w.heap.size (.slice none 0 0) [] := .inl ⟨rfl, rfl⟩
  have on := Only.refl g w
  have t1 : True := trivial
  go_enter Try.func66, Try.ntmps66
  go_wp2_with (first
    | (go_at_call 156; clear t1; refine (num1 g w.heap.size _ _ _ _ _ _ _ _ _ _ _ _ _ _ k ho (by first | exact Nat.le_refl _ | exact on.size) (by first | exact Nat.zero_le _ | (simp only [List.length_append, List.length_nil, dg_len, pairsL_len, actsL_len, headL_len]; omega)) (by repeat (first | exact dg_byt _ _ | exact pairsL_byt _ _ _ | exact actsL_byt _ _ | exact headL_byt _ _ | exact byt_nil | refine byt_app ?_ ?_)) (fit1 (by omega) (by omega))).mono ?_; rintro e w1 ⟨rfl, hW, o1⟩; clear k ho p0 p1 p2 p3 p4 p5 p6 p7 p8 p9 p10; obtain ⟨v1, k, ho⟩ := hW.out; replace on := onlyT on o1; clear hW o1; obtain ⟨p0, p1, p2, p3, p4, p5, p6, p7, p8, p9, p10⟩ := eleven k; have t2 : True := trivial)
    | (go_at_call 156; clear t2; refine (num1 g w.heap.size _ _ _ _ _ _ _ _ _ _ _ _ _ _ k ho (by first | exact Nat.le_refl _ | exact on.size) (by first | exact Nat.zero_le _ | (simp only [List.length_append, List.length_nil, dg_len, pairsL_len, actsL_len, headL_len]; omega)) (by repeat (first | exact dg_byt _ _ | exact pairsL_byt _ _ _ | exact actsL_byt _ _ | exact headL_byt _ _ | exact byt_nil | refine byt_app ?_ ?_)) h1).mono ?_; rintro e w2 ⟨rfl, hW, o2⟩; clear k ho p0 p1 p2 p3 p4 p5 p6 p7 p8 p9 p10; obtain ⟨v2, k, ho⟩ := hW.out; replace on := onlyT on o2; clear hW o2; obtain ⟨p0, p1, p2, p3, p4, p5, p6, p7, p8, p9, p10⟩ := eleven k; have t3 : True := trivial)
    | (go_at_call 156; clear t3; refine (num2 g w.heap.size _ _ _ _ _ _ _ _ _ _ _ _ _ _ k ho (by first | exact Nat.le_refl _ | exact on.size) (by first | exact Nat.zero_le _ | (simp only [List.length_append, List.length_nil, dg_len, pairsL_len, actsL_len, headL_len]; omega)) (by repeat (first | exact dg_byt _ _ | exact pairsL_byt _ _ _ | exact actsL_byt _ _ | exact headL_byt _ _ | exact byt_nil | refine byt_app ?_ ?_)) h2).mono ?_; rintro e w3 ⟨rfl, hW, o3⟩; clear k ho p0 p1 p2 p3 p4 p5 p6 p7 p8 p9 p10; obtain ⟨v3, k, ho⟩ := hW.out; replace on := onlyT on o3; clear hW o3; obtain ⟨p0, p1, p2, p3, p4, p5, p6, p7, p8, p9, p10⟩ := eleven k; have t4 : True := trivial)
    | (go_at_call 156; clear t4; refine (num4 g w.heap.size _ _ _ _ _ _ _ _ _ _ _ _ _ _ k ho (by first | exact Nat.le_refl _ | exact on.size) (by first | exact Nat.zero_le _ | (simp only [List.length_append, List.length_nil, dg_len, pairsL_len, actsL_len, headL_len]; omega)) (by repeat (first | exact dg_byt _ _ | exact pairsL_byt _ _ _ | exact actsL_byt _ _ | exact headL_byt _ _ | exact byt_nil | refine byt_app ?_ ?_)) h3).mono ?_; rintro e w4 ⟨rfl, hW, o4⟩; clear k ho p0 p1 p2 p3 p4 p5 p6 p7 p8 p9 p10; obtain ⟨v4, k, ho⟩ := hW.out; replace on := onlyT on o4; clear hW o4; obtain ⟨p0, p1, p2, p3, p4, p5, p6, p7, p8, p9, p10⟩ := eleven k; have t5 : True := trivial)
    | (go_at_call 156; clear t5; refine (num4 g w.heap.size _ _ _ _ _ _ _ _ _ _ _ _ _ _ k ho (by first | exact Nat.le_refl _ | exact on.size) (by first | exact Nat.zero_le _ | (simp only [List.length_append, List.length_nil, dg_len, pairsL_len, actsL_len, headL_len]; omega)) (by repeat (first | exact dg_byt _ _ | exact pairsL_byt _ _ _ | exact actsL_byt _ _ | exact headL_byt _ _ | exact byt_nil | refine byt_app ?_ ?_)) h4).mono ?_; rintro e w5 ⟨rfl, hW, o5⟩; clear k ho p0 p1 p2 p3 p4 p5 p6 p7 p8 p9 p10; replace on := onlyT on o5; clear o5))
  refine bodyPost_end (v := .tuple #[]) (by simp [results, Try.results66, go_sem]) rfl ⟨rfl, ?_, on⟩
  simpa using hW

set_option maxHeartbeats 4000000 in
theorem flip_any (kd se xi ep pr : Int) (V M : List Int) (A : List Yb.A3) (hd : Bool) (H : List Int) (aV aM aA aH : Option Addr) (cV cM cA cH : Nat) (g : Nat) (w : World) (k : w.heap[g]? = some (.cells #[.int .i64 kd, .int .i64 se, .int .i64 xi, .int .i64 ep, .int .i64 pr, .slice aV V.length cV, .slice aM M.length cM, .slice aA A.length cA, .bool hd, .slice aH H.length cH, .slice none 0 0] 102 (0, 0))) (h1 : numOkB ep 4 = true) :
    Calls Try.prog 153 #[.pointer (some ⟨g, 0, none⟩)] w fun e w' => e = .returned (.tuple #[]) ∧ Wr w' g w.heap.size (.int .i64 kd) (.int .i64 se) (.int .i64 xi) (.int .i64 ep) (.int .i64 pr) (.slice aV V.length cV) (.slice aM M.length cM) (.slice aA A.length cA) (.bool hd) (.slice aH H.length cH) (dg ep 4) ∧ Only g w w' := by
  obtain ⟨p0, p1, p2, p3, p4, p5, p6, p7, p8, p9, p10⟩ := eleven k
  have ho : Out w w.heap.size (.slice none 0 0) [] := .inl ⟨rfl, rfl⟩
  have on := Only.refl g w
  have t1 : True := trivial
  go_enter Try.func153, Try.ntmps153
  go_wp2_with (go_at_call 156; clear t1; refine (num4 g w.heap.size _ _ _ _ _ _ _ _ _ _ _ _ _ _ k ho (by first | exact Nat.le_refl _ | exact on.size) (by first | exact Nat.zero_le _ | (simp only [List.length_append, List.length_nil, dg_len, pairsL_len, actsL_len, headL_len]; omega)) (by repeat (first | exact dg_byt _ _ | exact pairsL_byt _ _ _ | exact actsL_byt _ _ | exact headL_byt _ _ | exact byt_nil | refine byt_app ?_ ?_)) h1).mono ?_; rintro e w1 ⟨rfl, hW, o1⟩; clear k ho p0 p1 p2 p3 p4 p5 p6 p7 p8 p9 p10; replace on := onlyT on o1; clear o1)
  refine bodyPost_end (v := .tuple #[]) (by simp [results, Try.results153, go_sem]) rfl ⟨rfl, ?_, on⟩
  simpa using hW


end Go.Proofs.Ytcbhpmgjmpbpmaa.Ja
namespace Go.Proofs.Ytcbhpmgjmpbpmaa.Ja
open Go Go.RowKit
set_option maxRecDepth 8000
set_option linter.unusedSimpArgs false
set_option linter.unusedVariables false
open Num Pl Rw Mk Un Put App Ea Ga

theorem headL_step (x H : List Int) (j : Nat) : x ++ headL H j ++ dg (H.getD j 0) 6 = x ++ headL H (j + 1) := by simp only [headL, List.append_assoc]
theorem pairsL_step (x V M : List Int) (j : Nat) : x ++ pairsL V M j ++ dg (V.getD j 0) 6 ++ dg (M.getD j 0) 6 = x ++ pairsL V M (j + 1) := by simp only [pairsL, List.append_assoc]
theorem actsL_step (x : List Int) (A : List Yb.A3) (j : Nat) : x ++ actsL A j ++ dg (A.getD j Yb.z3).1 1 ++ dg (A.getD j Yb.z3).2.1 1 ++ dg (A.getD j Yb.z3).2.2 6 = x ++ actsL A (j + 1) := by simp only [actsL, List.append_assoc]

set_option maxHeartbeats 8000000 in
theorem note_num (kd se xi ep pr : Int) (V M : List Int) (A : List Yb.A3) (hd : Bool) (H : List Int) (aV aM aA aH : Option Addr) (cV cM cA cH : Nat) (bH oH : Nat) (g : Nat) (b : Int) (hbb : b = if hd then 1 else 0) (w : World) (k : w.heap[g]? = some (.cells #[.int .i64 kd, .int .i64 se, .int .i64 xi, .int .i64 ep, .int .i64 pr, .slice aV V.length cV, .slice aM M.length cM, .slice aA A.length cA, .bool hd, .slice aH H.length cH, .slice none 0 0] 102 (0, 0))) (rH : Hr.Rd w aH bH oH H) (hne : bH ≠ g) (h8 : H.length = 8) (hf : ∀ k, k < 8 → numOkB (H.getD k 0) 6 = true) :
    Calls Try.prog 154 #[.pointer (some ⟨g, 0, none⟩)] w fun e w' => e = .returned (.tuple #[]) ∧ Wr w' g w.heap.size (.int .i64 kd) (.int .i64 se) (.int .i64 xi) (.int .i64 ep) (.int .i64 pr) (.slice aV V.length cV) (.slice aM M.length cM) (.slice aA A.length cA) (.bool hd) (.slice aH H.length cH) (noteL hd H) ∧ Only g w w' := by
  have hd0 := rH.head (by omega)
  subst hd0
  have RH : Hid (Hr.Rd w (some ⟨bH, oH, none⟩) bH oH H) := rH
  have HL : Hid (noteL hd H = dg b 1 ++ headL H 8) := (by unfold noteL; rw [hbb] : noteL hd H = dg b 1 ++ headL H 8)
  have fb : numOkB b 1 = true := by rw [hbb]; cases hd <;> exact fit1 (by simp) (by simp)
  clear rH
  obtain ⟨p0, p1, p2, p3, p4, p5, p6, p7, p8, p9, p10⟩ := eleven k
  have ho : Out w w.heap.size (.slice none 0 0) [] := .inl ⟨rfl, rfl⟩
  have on := Only.refl g w
  obtain ⟨nH, hnH⟩ : ∃ nH, nH = H.length := ⟨_, rfl⟩
  have HN : Hid (nH = H.length) := hnH
  have e8 : nH = 8 := by omega
  rw [HL.out]
  rw [← hnH] at k p9 ⊢
  clear hnH h8
  subst e8
  have t1 : True := trivial
  have hbb' := hbb
  cases hd
  all_goals
    simp at hbb hbb'
    subst hbb
    go_enter Try.func154, Try.ntmps154
    go_wp2_with (go_at_call 156; clear t1; refine (num1 g w.heap.size _ _ _ _ _ _ _ _ _ _ _ _ _ _ k ho (by first | exact Nat.le_refl _ | exact on.size) (by first | exact Nat.zero_le _ | (simp only [List.length_append, List.length_nil, dg_len, pairsL_len, actsL_len, headL_len]; omega)) (by repeat (first | exact dg_byt _ _ | exact pairsL_byt _ _ _ | exact actsL_byt _ _ | exact headL_byt _ _ | exact byt_nil | refine byt_app ?_ ?_)) fb).mono ?_; rintro e w1 ⟨rfl, hW, o1⟩; have HW := hW; clear k ho p0 p1 p2 p3 p4 p5 p6 p7 p8 p9 p10; obtain ⟨vv, k, ho⟩ := hW.out; replace on := onlyT on o1; clear hW o1; obtain ⟨p0, p1, p2, p3, p4, p5, p6, p7, p8, p9, p10⟩ := eleven k)
    have HWH : Hid (Wr w1 g w.heap.size _ _ _ _ _ _ _ _ _ _ _) := HW
    have ON : Hid (Only g w w1) := on
    clear k ho on HW
    go_loopw [20] (fun i wr => ∃ j : Nat, j ≤ 8 ∧ i = .int .i64 j ∧ Wr wr g w.heap.size _ _ _ _ _ _ _ _ _ _ ([] ++ dg _ 1 ++ headL H j) ∧ Only g w wr) (fun i _ => 8 - (intOf i).toNat)
    case atStart => exact ⟨0, by omega, rfl, by simpa [headL] using HWH.out, ON.out⟩
    case round =>
      obtain ⟨j, hj, rfl, hW, on⟩ := hrel
      by_cases hlt : j < 8
      · have hjz : (j : Int) < 8 := by omega
        obtain ⟨vv, k, ho⟩ := hW.out
        have hc := (rdN_only on RH.out hne).cell j (by have := HN.out; omega)
        have hfj := hf j hlt
        clear p0 p1 p2 p3 p4 p5 p6 p7 p8 p9 p10
        obtain ⟨p0, p1, p2, p3, p4, p5, p6, p7, p8, p9, p10⟩ := eleven k
        go_wp2_with (go_at_call 156; refine (num6 g w.heap.size _ _ _ _ _ _ _ _ _ _ _ _ _ _ k ho (by first | exact Nat.le_refl _ | exact on.size) (by simp only [List.length_append, List.length_nil, dg_len, headL_len]; omega) (by repeat (first | exact dg_byt _ _ | exact pairsL_byt _ _ _ | exact actsL_byt _ _ | exact headL_byt _ _ | exact byt_nil | refine byt_app ?_ ?_)) hfj).mono ?_; rintro e w2 ⟨rfl, hW2, o2⟩; rw [headL_step] at hW2)
        go_roundw
        case rel => exact ⟨j + 1, by omega, by go_num, hW2, onlyT on o2⟩
        case measure => simp [intOf]; omega
      · have he : j = 8 := by omega
        subst he
        go_wp2
        refine bodyPost_end (v := .tuple #[]) (by simp [results, Try.results154, go_sem]) rfl ⟨rfl, ?_, on⟩
        simpa using hW

theorem three {w : World} {g : Nat} {v0 v1 v2 : Value} {t : TypeId} {fr : Nat × Nat} (k : w.heap[g]? = some (.cells #[v0, v1, v2] t fr)) : w.cell? ⟨g, 0, none⟩ = some v0 ∧ w.cell? ⟨g, 1, none⟩ = some v1 ∧ w.cell? ⟨g, 2, none⟩ = some v2 := by
  simp [World.cell?, k]

set_option maxHeartbeats 16000000 in
theorem add_any (kd se xi ep pr : Int) (V M : List Int) (A : List Yb.A3) (hd : Bool) (H : List Int) (aV aM aA aH : Option Addr) (cV cM cA cH : Nat) (bV oV bM oM bA oA : Nat) (g : Nat) (w : World) (k : w.heap[g]? = some (.cells #[.int .i64 kd, .int .i64 se, .int .i64 xi, .int .i64 ep, .int .i64 pr, .slice aV V.length cV, .slice aM M.length cM, .slice aA A.length cA, .bool hd, .slice aH H.length cH, .slice none 0 0] 102 (0, 0))) (rV : Hr.Rd w aV bV oV V) (rM : Hr.Rd w aM bM oM M) (rA : Yb.Rd w aA bA oA A) (nV : bV ≠ g) (nM : bM ≠ g) (nA : bA ≠ g)
    (f1 : numOkB ep 4 = true) (f2 : numOkB pr 2 = true) (hm : Po.matchB V M = true) (ha : Yd.actsB A = true) :
    Calls Try.prog 152 #[.pointer (some ⟨g, 0, none⟩)] w fun e w' => e = .returned (.tuple #[]) ∧ Wr w' g w.heap.size (.int .i64 kd) (.int .i64 se) (.int .i64 xi) (.int .i64 ep) (.int .i64 pr) (.slice aV V.length cV) (.slice aM M.length cM) (.slice aA A.length cA) (.bool hd) (.slice aH H.length cH) (addL ep pr V M A) ∧ Only g w w' := by
  obtain ⟨lV, lM, fm⟩ := match_fit hm
  obtain ⟨lA, fa⟩ := acts_fit ha
  have fA : numOkB (A.length : Int) 1 = true := fit1 (by omega) (by omega)
  have hV0 := rV.head (by omega)
  have hM0 := rM.head (by omega)
  subst hV0 hM0
  have RV : Hid (Hr.Rd w (some ⟨bV, oV, none⟩) bV oV V) := rV
  have RM : Hid (Hr.Rd w (some ⟨bM, oM, none⟩) bM oM M) := rM
  have RA : Hid (Yb.Rd w aA bA oA A) := rA
  have hA0 := rA.head
  clear rV rM rA
  obtain ⟨p0, p1, p2, p3, p4, p5, p6, p7, p8, p9, p10⟩ := eleven k
  have ho : Out w w.heap.size (.slice none 0 0) [] := .inl ⟨rfl, rfl⟩
  have on := Only.refl g w
  obtain ⟨mV, hmV⟩ : ∃ mV, mV = V.length := ⟨_, rfl⟩
  obtain ⟨mM, hmM⟩ : ∃ mM, mM = M.length := ⟨_, rfl⟩
  have HV8 : Hid (V.length = 8) := lV
  have HM8 : Hid (M.length = 8) := lM
  rw [← hmV, ← hmM] at k ⊢
  rw [← hmV] at p5 lV
  rw [← hmM] at p6 lM
  clear hmV hmM
  subst lV lM
  have HA12 : Hid (A.length ≤ 12) := lA
  have t1 : True := trivial
  go_enter Try.func152, Try.ntmps152
  go_wp2_with (first
    | (go_at_call 156; clear t1; refine (num4 g w.heap.size _ _ _ _ _ _ _ _ _ _ _ _ _ _ k ho (by first | exact Nat.le_refl _ | exact on.size) (by first | exact Nat.zero_le _ | (simp only [List.length_append, List.length_nil, dg_len, pairsL_len, actsL_len, headL_len]; omega)) (by repeat (first | exact dg_byt _ _ | exact pairsL_byt _ _ _ | exact actsL_byt _ _ | exact headL_byt _ _ | exact byt_nil | refine byt_app ?_ ?_)) f1).mono ?_; rintro e w1 ⟨rfl, hW, o1⟩; clear k ho p0 p1 p2 p3 p4 p5 p6 p7 p8 p9 p10; obtain ⟨vv, k, ho⟩ := hW.out; replace on := onlyT on o1; clear hW o1; obtain ⟨p0, p1, p2, p3, p4, p5, p6, p7, p8, p9, p10⟩ := eleven k; have t2 : True := trivial)
    | (go_at_call 156; clear t2; refine (num2 g w.heap.size _ _ _ _ _ _ _ _ _ _ _ _ _ _ k ho (by first | exact Nat.le_refl _ | exact on.size) (by first | exact Nat.zero_le _ | (simp only [List.length_append, List.length_nil, dg_len, pairsL_len, actsL_len, headL_len]; omega)) (by repeat (first | exact dg_byt _ _ | exact pairsL_byt _ _ _ | exact actsL_byt _ _ | exact headL_byt _ _ | exact byt_nil | refine byt_app ?_ ?_)) f2).mono ?_; rintro e w2 ⟨rfl, hW, o1⟩; have HW := hW; clear k ho p0 p1 p2 p3 p4 p5 p6 p7 p8 p9 p10; obtain ⟨vv, k, ho⟩ := hW.out; replace on := onlyT on o1; clear hW o1; obtain ⟨p0, p1, p2, p3, p4, p5, p6, p7, p8, p9, p10⟩ := eleven k))
  have HWH : Hid (Wr w2 g w.heap.size _ _ _ _ _ _ _ _ _ _ _) := HW
  have ON : Hid (Only g w w2) := on
  clear k ho on HW
  go_loopw [19] (fun i wr => ∃ j : Nat, j ≤ 8 ∧ i = .int .i64 j ∧ Wr wr g w.heap.size _ _ _ _ _ _ _ _ _ _ ([] ++ dg ep 4 ++ dg pr 2 ++ pairsL V M j) ∧ Only g w wr) (fun i _ => 8 - (intOf i).toNat)
  case atStart => exact ⟨0, by omega, rfl, by simpa [pairsL] using HWH.out, ON.out⟩
  case round =>
    obtain ⟨j, hj, rfl, hW, on⟩ := hrel
    clear p0 p1 p2 p3 p4 p5 p6 p7 p8 p9 p10
    obtain ⟨vv, k, ho⟩ := hW.out
    obtain ⟨p0, p1, p2, p3, p4, p5, p6, p7, p8, p9, p10⟩ := eleven k
    by_cases hlt : j < 8
    · have hjz : (j : Int) < 8 := by omega
      have hcV := (rdN_only on RV.out nV).cell j (by have := HV8.out; omega)
      have fV := (fm j hlt).1
      have fM := (fm j hlt).2
      have t3 : True := trivial
      go_wp2_with (first
        | (go_at_call 156; clear t3; refine (num6 g w.heap.size _ _ _ _ _ _ _ _ _ _ _ _ _ _ k ho (by first | exact Nat.le_refl _ | exact on.size) (by first | exact Nat.zero_le _ | (simp only [List.length_append, List.length_nil, dg_len, pairsL_len, actsL_len, headL_len]; omega)) (by repeat (first | exact dg_byt _ _ | exact pairsL_byt _ _ _ | exact actsL_byt _ _ | exact headL_byt _ _ | exact byt_nil | refine byt_app ?_ ?_)) fV).mono ?_; rintro e w3 ⟨rfl, hW3, o1⟩; clear k ho p0 p1 p2 p3 p4 p5 p6 p7 p8 p9 p10; obtain ⟨vv3, k, ho⟩ := hW3.out; replace on := onlyT on o1; clear o1; obtain ⟨p0, p1, p2, p3, p4, p5, p6, p7, p8, p9, p10⟩ := eleven k; have hcM := (rdN_only on RM.out nM).cell j (by have := HM8.out; omega); have t4 : True := trivial)
        | (go_at_call 156; clear t4; refine (num6 g w.heap.size _ _ _ _ _ _ _ _ _ _ _ _ _ _ k ho (by first | exact Nat.le_refl _ | exact on.size) (by first | exact Nat.zero_le _ | (simp only [List.length_append, List.length_nil, dg_len, pairsL_len, actsL_len, headL_len]; omega)) (by repeat (first | exact dg_byt _ _ | exact pairsL_byt _ _ _ | exact actsL_byt _ _ | exact headL_byt _ _ | exact byt_nil | refine byt_app ?_ ?_)) fM).mono ?_; rintro e w4 ⟨rfl, hW4, o2⟩; rw [pairsL_step] at hW4))
      go_roundw
      case rel => exact ⟨j + 1, by omega, by go_num, hW4, onlyT on o2⟩
      case measure => simp [intOf]; omega
    · have he : j = 8 := by omega
      subst he
      have t5 : True := trivial
      go_wp2_with (go_at_call 156; clear t5; refine (num1 g w.heap.size _ _ _ _ _ _ _ _ _ _ _ _ _ _ k ho (by first | exact Nat.le_refl _ | exact on.size) (by first | exact Nat.zero_le _ | (simp only [List.length_append, List.length_nil, dg_len, pairsL_len, actsL_len, headL_len]; omega)) (by repeat (first | exact dg_byt _ _ | exact pairsL_byt _ _ _ | exact actsL_byt _ _ | exact headL_byt _ _ | exact byt_nil | refine byt_app ?_ ?_)) fA).mono ?_; rintro e w5 ⟨rfl, hW5, o1⟩; have HW5 := hW5; clear k ho p0 p1 p2 p3 p4 p5 p6 p7 p8 p9 p10; obtain ⟨vv5, k, ho⟩ := hW5.out; replace on := onlyT on o1; clear o1 hW5; obtain ⟨p0, p1, p2, p3, p4, p5, p6, p7, p8, p9, p10⟩ := eleven k)
      have HWH5 : Hid (Wr w5 g w.heap.size _ _ _ _ _ _ _ _ _ _ _) := HW5
      have ON5 : Hid (Only g w w5) := on
      clear k ho on HW5 hW HWH ON
      go_loopw [59] (fun i wr => ∃ j : Nat, j ≤ A.length ∧ i = .int .i64 j ∧ Wr wr g w.heap.size _ _ _ _ _ _ _ _ _ _ ([] ++ dg ep 4 ++ dg pr 2 ++ pairsL V M 8 ++ dg (A.length : Int) 1 ++ actsL A j) ∧ Only g w wr) (fun i _ => A.length - (intOf i).toNat)
      case atStart => exact ⟨0, by omega, rfl, by simpa [actsL] using HWH5.out, ON5.out⟩
      case round =>
        obtain ⟨j, hj, rfl, hW, on⟩ := hrel
        clear p0 p1 p2 p3 p4 p5 p6 p7 p8 p9 p10
        by_cases hlt : j < A.length
        · have hjz : (j : Int) < (A.length : Int) := by omega
          obtain rfl := hA0 (by omega)
          have hc3 := (rdA_only on RA.out nA).cell j hlt
          have faj := fa j hlt
          obtain ⟨q0, q1, q2⟩ := hc3
          have HST : Hid (∀ x, x ++ actsL A j ++ dg (A.getD j Yb.z3).1 1 ++ dg (A.getD j Yb.z3).2.1 1 ++ dg (A.getD j Yb.z3).2.2 6 = x ++ actsL A (j + 1)) := fun x => actsL_step x A j
          generalize A.getD j Yb.z3 = z at *
          obtain ⟨x1, x2, x3⟩ := z
          simp only at q0 q1 q2 faj
          obtain ⟨fa1, fa2, fa3⟩ := faj
          have HST2 : Hid (∀ x, x ++ actsL A j ++ dg x1 1 ++ dg x2 1 ++ dg x3 6 = x ++ actsL A (j + 1)) := HST.out
          obtain ⟨W6, hW6⟩ : ∃ W6, W6 = wr.alloc (.cells #[.int .i64 x1, .int .i64 x2, .int .i64 x3] 133) := ⟨_, rfl⟩
          have b6 : Below wr.heap.size wr W6 := by subst hW6; exact below_alloc1 _ _
          have k6 : W6.heap[wr.heap.size]? = some (.cells #[.int .i64 x1, .int .i64 x2, .int .i64 x3] 133 (0, 0)) := by subst hW6; exact at_new rfl
          obtain ⟨vv, k', ho'⟩ := hW.out
          have gl := blk_lt k'
          have k := (b6.block _ gl).trans k'
          have ho : Out W6 w.heap.size vv _ := ho'.imp id fun h => hasI_below h b6
          have gne : wr.heap.size ≠ g := by omega
          replace on := onlyT on (onlyB b6)
          clear k' ho' HST
          obtain ⟨d0, d1, d2⟩ := three k6
          have t6 : True := trivial
          go_wp2_with (first
            | (go_at_call 156; clear t6; rw [← hW6]; clear hW6; refine (num1 g w.heap.size _ _ _ _ _ _ _ _ _ _ _ _ _ _ k ho (by first | exact Nat.le_refl _ | exact on.size) (by have := HA12.out; simp only [List.length_append, List.length_nil, dg_len, pairsL_len, actsL_len, headL_len]; omega) (by repeat (first | exact dg_byt _ _ | exact pairsL_byt _ _ _ | exact actsL_byt _ _ | exact headL_byt _ _ | exact byt_nil | refine byt_app ?_ ?_)) fa1).mono ?_; rintro e w7 ⟨rfl, hW7, o1⟩; clear k ho d0 d1 d2; obtain ⟨vv7, k, ho⟩ := hW7.out; replace on := onlyT on o1; have k7 := (o1.block _ (blk_lt k6) (by simpa using gne)).trans k6; clear o1; obtain ⟨d0, d1, d2⟩ := three k7; have t7 : True := trivial)
            | (go_at_call 156; clear t7; refine (num1 g w.heap.size _ _ _ _ _ _ _ _ _ _ _ _ _ _ k ho (by first | exact Nat.le_refl _ | exact on.size) (by have := HA12.out; simp only [List.length_append, List.length_nil, dg_len, pairsL_len, actsL_len, headL_len]; omega) (by repeat (first | exact dg_byt _ _ | exact pairsL_byt _ _ _ | exact actsL_byt _ _ | exact headL_byt _ _ | exact byt_nil | refine byt_app ?_ ?_)) fa2).mono ?_; rintro e w8 ⟨rfl, hW8, o1⟩; clear k ho d0 d1 d2; obtain ⟨vv8, k, ho⟩ := hW8.out; replace on := onlyT on o1; have k8 := (o1.block _ (blk_lt k7) (by simpa using gne)).trans k7; clear o1; obtain ⟨d0, d1, d2⟩ := three k8; have t8 : True := trivial)
            | (go_at_call 156; clear t8; refine (num6 g w.heap.size _ _ _ _ _ _ _ _ _ _ _ _ _ _ k ho (by first | exact Nat.le_refl _ | exact on.size) (by have := HA12.out; simp only [List.length_append, List.length_nil, dg_len, pairsL_len, actsL_len, headL_len]; omega) (by repeat (first | exact dg_byt _ _ | exact pairsL_byt _ _ _ | exact actsL_byt _ _ | exact headL_byt _ _ | exact byt_nil | refine byt_app ?_ ?_)) fa3).mono ?_; rintro e w9 ⟨rfl, hW9, o1⟩; rw [HST2.out] at hW9; replace on := onlyT on o1; clear o1))
          go_roundw
          case rel => exact ⟨j + 1, by omega, by go_num, hW9, on⟩
          case measure => simp [intOf]; omega
        · have he : j = A.length := by omega
          subst he
          go_wp2
          refine bodyPost_end (v := .tuple #[]) (by simp [results, Try.results152, go_sem]) rfl ⟨rfl, ?_, on⟩
          simpa [addL] using hW


end Go.Proofs.Ytcbhpmgjmpbpmaa.Ja
namespace Go.Proofs.Ytcbhpmgjmpbpmaa.Ja
open Go Go.RowKit
set_option maxRecDepth 8000
set_option linter.unusedSimpArgs false
set_option linter.unusedVariables false
open Num Pl Rw Mk Un Put App Ea Ga

theorem pick152 (kd se xi ep pr : Int) (V M : List Int) (A : List Yb.A3) (hd : Bool) (H : List Int) (aV aM aA aH : Option Addr) (cV cM cA cH : Nat) (g : Nat) (w : World) (v : Value) (k : w.heap[g]? = some (.cells #[.int .i64 kd, .int .i64 se, .int .i64 xi, .int .i64 ep, .int .i64 pr, .slice aV V.length cV, .slice aM M.length cM, .slice aA A.length cA, .bool hd, .slice aH H.length cH, v] 102 (0, 0))) (hk : kd = 2) :
    Calls Try.prog 65 #[.pointer (some ⟨g, 0, none⟩)] w fun e w' => e = .returned (.func (.func 152) #[.pointer (some ⟨g, 0, none⟩)] #[]) ∧ w' = w := by
  subst hk
  obtain ⟨p0, p1, p2, p3, p4, p5, p6, p7, p8, p9, p10⟩ := eleven k
  go_enter Try.func65, Try.ntmps65
  go_wp2
  go_ret
  exact ⟨rfl, rfl⟩

theorem pick153 (kd se xi ep pr : Int) (V M : List Int) (A : List Yb.A3) (hd : Bool) (H : List Int) (aV aM aA aH : Option Addr) (cV cM cA cH : Nat) (g : Nat) (w : World) (v : Value) (k : w.heap[g]? = some (.cells #[.int .i64 kd, .int .i64 se, .int .i64 xi, .int .i64 ep, .int .i64 pr, .slice aV V.length cV, .slice aM M.length cM, .slice aA A.length cA, .bool hd, .slice aH H.length cH, v] 102 (0, 0))) (hk : kd = 3) :
    Calls Try.prog 65 #[.pointer (some ⟨g, 0, none⟩)] w fun e w' => e = .returned (.func (.func 153) #[.pointer (some ⟨g, 0, none⟩)] #[]) ∧ w' = w := by
  subst hk
  obtain ⟨p0, p1, p2, p3, p4, p5, p6, p7, p8, p9, p10⟩ := eleven k
  go_enter Try.func65, Try.ntmps65
  go_wp2
  go_ret
  exact ⟨rfl, rfl⟩

theorem pick154 (kd se xi ep pr : Int) (V M : List Int) (A : List Yb.A3) (hd : Bool) (H : List Int) (aV aM aA aH : Option Addr) (cV cM cA cH : Nat) (g : Nat) (w : World) (v : Value) (k : w.heap[g]? = some (.cells #[.int .i64 kd, .int .i64 se, .int .i64 xi, .int .i64 ep, .int .i64 pr, .slice aV V.length cV, .slice aM M.length cM, .slice aA A.length cA, .bool hd, .slice aH H.length cH, v] 102 (0, 0))) (hk : kd = 5) :
    Calls Try.prog 65 #[.pointer (some ⟨g, 0, none⟩)] w fun e w' => e = .returned (.func (.func 154) #[.pointer (some ⟨g, 0, none⟩)] #[]) ∧ w' = w := by
  subst hk
  obtain ⟨p0, p1, p2, p3, p4, p5, p6, p7, p8, p9, p10⟩ := eleven k
  go_enter Try.func65, Try.ntmps65
  go_wp2
  go_ret
  exact ⟨rfl, rfl⟩

theorem pick155 (kd se xi ep pr : Int) (V M : List Int) (A : List Yb.A3) (hd : Bool) (H : List Int) (aV aM aA aH : Option Addr) (cV cM cA cH : Nat) (g : Nat) (w : World) (v : Value) (k : w.heap[g]? = some (.cells #[.int .i64 kd, .int .i64 se, .int .i64 xi, .int .i64 ep, .int .i64 pr, .slice aV V.length cV, .slice aM M.length cM, .slice aA A.length cA, .bool hd, .slice aH H.length cH, v] 102 (0, 0))) (hk : (¬ kd = 2 ∧ ¬ kd = 3 ∧ ¬ kd = 5)) :
    Calls Try.prog 65 #[.pointer (some ⟨g, 0, none⟩)] w fun e w' => e = .returned (.func (.func 155) #[.pointer (some ⟨g, 0, none⟩)] #[]) ∧ w' = w := by
  obtain ⟨h2, h3, h5⟩ := hk
  obtain ⟨p0, p1, p2, p3, p4, p5, p6, p7, p8, p9, p10⟩ := eleven k
  go_enter Try.func65, Try.ntmps65
  go_wp2
  go_ret
  exact ⟨rfl, rfl⟩

theorem none_any (g : Nat) (w : World) : Calls Try.prog 155 #[.pointer (some ⟨g, 0, none⟩)] w fun e w' => e = .returned (.tuple #[]) ∧ w' = w := by
  go_enter Try.func155, Try.ntmps155
  go_wp2
  exact bodyPost_end (v := .tuple #[]) (by simp [results, Try.results155, go_sem]) rfl ⟨rfl, rfl⟩


end Go.Proofs.Ytcbhpmgjmpbpmaa.Ja
namespace Go.Proofs.Ytcbhpmgjmpbpmaa.Ja
open Go Go.RowKit
set_option maxRecDepth 8000
set_option linter.unusedSimpArgs false
set_option linter.unusedVariables false
open Num Pl Rw Mk Un Put App Ea Ga

/-- Bytes and a bool are handed back, the bytes in memory of the call's own. -/
def ResW (w : World) (ok : Bool) (L : List Int) (e : Ending) (w' : World) : Prop :=
  ∃ a g cap, e = .returned (.tuple #[.slice a L.length cap, .bool ok]) ∧ Wt w' a g L ∧ w.heap.size ≤ g ∧ (a = none → cap = 0) ∧ L.length ≤ cap ∧ Below w.heap.size w w'
theorem resW_no {w w' : World} (h : Below w.heap.size w w') : ResW w false [] (.returned (.tuple #[.slice none 0 0, .bool false])) w' := ⟨none, w.heap.size, 0, rfl, Wt.nil _ _ _, Nat.le_refl _, fun _ => rfl, by simp, h⟩
def writtenL (x : Said) : List Int := if msgB x = true then msgL x else []
theorem hasI_ok {w w0 w' : World} {B : Nat} {v : Value} {L : List Int} (h : HasI w' B v L) (hs : L.length ≤ 4194304) (hy : Byt L) (hB : w.heap.size ≤ B) (hb : Below w.heap.size w w') : ResW w true L (.returned (.tuple #[v, .bool true])) w' := by
  obtain ⟨g, cap, rfl, hg, hwt, hn⟩ := Hp.room h hs hy
  exact ⟨some ⟨g, 0, none⟩, g, cap, rfl, hwt, by omega, fun e => by simp at e, hn, hb⟩

set_option maxHeartbeats 4000000 in
theorem bytesI_no (m : Msg) (w : World) (h : m.Ok w) (hb : msgB m.said = false) : Calls Try.prog 14 #[.agg m.vals] w (ResW w (msgB m.said) (writtenL m.said)) := by
  have e : writtenL m.said = [] := by unfold writtenL; rw [hb]; rfl
  rw [e, hb]
  obtain ⟨W1, hW1⟩ : ∃ W1, W1 = w.alloc (.cells m.vals 30) := ⟨_, rfl⟩
  have B1 : Below w.heap.size w W1 := by subst hW1; exact below_alloc1 _ _
  have hc := okM_impl m W1 (h.below B1)
  rw [hb] at hc
  simp only [msg_vals] at hW1 hc ⊢
  go_enter Try.func14, Try.ntmps14
  go_wp2_with (go_at_call 23; rw [← hW1]; clear hW1; refine hc.mono ?_; rintro x wa ⟨rfl, ba⟩)
  refine bodyPost_ret (v := .tuple #[.slice none 0 0, .bool false]) (by simp [results, Try.results14, go_sem]) rfl ?_
  exact resW_no (Rw.next B1 ba)

theorem hasI_keep1 {w w' : World} {B g n c : Nat} {l : List Int} (k : HasI w B (.slice (some ⟨g, 0, none⟩) n c) l) (hk : w'.heap[g]? = w.heap[g]?) : HasI w' B (.slice (some ⟨g, 0, none⟩) n c) l := by
  refine ⟨⟨k.1.1, ?_⟩, k.2⟩
  rcases k.1.2 with h | ⟨g1, cap, cur, e, hb, hh, rest⟩
  · exact .inl h
  · injection e with e1 e2 e3
    injection e1 with e1
    injection e1 with e1
    subst e1
    exact .inr ⟨g, cap, cur, by rw [e2, e3], hb, hk.trans hh, rest⟩
theorem hasI_wt {w : World} {B g n c : Nat} {l : List Int} (h : HasI w B (.slice (some ⟨g, 0, none⟩) n c) l) (hs : l.length ≤ 4194304) (hy : Byt l) : Wt w (some ⟨g, 0, none⟩) g l := by
  obtain ⟨g1, cap, e, _, hw⟩ := hasI_form h hs hy
  injection e with e1 e2 e3
  injection e1 with e1
  injection e1 with e1
  subst e1
  exact hw

set_option maxHeartbeats 16000000 in
theorem bytesI153 (m : Msg) (w : World) (h : m.Ok w) (hb : msgB m.said = true) (hk : m.kd = 3) : Calls Try.prog 14 #[.agg m.vals] w (ResW w true (msgL m.said)) := by
  have ft := fit_of hb
  have hI := okM_impl
  simp only [msg_vals] at hI
  have hIm := fun W o => hI m W o
  rw [hb] at hIm
  have okm := h
  obtain ⟨kd, se, xi, ⟨ep, pr, V, M, A, hh, aV, bV, oV, cV, aM, bM, oM, cM, aA, bA, oA, cA⟩, hd, H, aH, bH, oH, cH⟩ := m
  (try simp only at hk)
  obtain ⟨⟨rV, rM, rA, wV, wM⟩, hz, rH, wH⟩ := h
  simp only at rV rM rA wV wM hz rH wH
  subst hz
  simp only [Msg.said, Ent.said] at ft ⊢
  have h1 := fit1 (n := kd) (by have := ft.kd; simp only at this; omega) (by have := ft.kd; simp only at this; omega)
  have h3 := ft.se
  have h4 := ft.xi
  (try simp only at h3 h4)
  have hlen := bodyL_len ft
  have hL : bodyL (kd, se, xi, (ep, pr, V, M, A, 0), hd, H) = dg ep 4 := by unfold bodyL; rw [if_neg (by simp only; omega), if_pos hk]
  have hML : msgL (kd, se, xi, (ep, pr, V, M, A, 0), hd, H) = (dg 1 1 ++ dg kd 1 ++ dg (12 + ((dg ep 4).length : Int)) 2 ++ dg se 4 ++ dg xi 4) ++ dg ep 4 := by unfold msgL frontL; rw [hL]
  have hyL : Byt (dg ep 4) := by rw [← hL]; exact bodyL_byt _
  rw [hL] at hlen
  have f1 := ft.flip hk
  (try simp only at f1)
  have HK : Hid (kd = 3) := hk
  clear ft hk
  obtain ⟨L, eL⟩ : ∃ L, L = dg ep 4 := ⟨_, rfl⟩
  rw [← eL] at hlen hyL hML
  obtain ⟨F, eF⟩ : ∃ F, F = dg 1 1 ++ dg kd 1 ++ dg (12 + (L.length : Int)) 2 ++ dg se 4 ++ dg xi 4 := ⟨_, rfl⟩
  have fl : F.length = 12 := by rw [eF]; simp only [List.length_append, dg_len]
  have fy : Byt F := by rw [eF]; exact byt_app (byt_app (byt_app (byt_app (dg_byt _ _) (dg_byt _ _)) (dg_byt _ _)) (dg_byt _ _)) (dg_byt _ _)
  rw [← eF] at hML
  have HEL : Hid (L = dg ep 4) := eL
  have HEF : Hid (F = dg 1 1 ++ dg kd 1 ++ dg (12 + (L.length : Int)) 2 ++ dg se 4 ++ dg xi 4) := eF
  have HF : Hid (F.length = 12) := fl
  have HFY : Hid (Byt F) := fy
  have HYL : Hid (Byt L) := hyL
  have HLL : Hid (L.length ≤ 199) := hlen
  have z12 : (L.length : Int) ≤ 199 := by omega
  clear eL eF fl fy hyL hlen
  obtain ⟨W1, hW1⟩ : ∃ W1, W1 = w.alloc (.cells #[.int .i64 kd, .int .i64 se, .int .i64 xi, .int .i64 ep, .int .i64 pr, .slice aV V.length cV, .slice aM M.length cM, .slice aA A.length cA, .bool hd, .slice aH H.length cH] 30) := ⟨_, rfl⟩
  have BW : Below w.heap.size w W1 := by subst hW1; exact below_alloc1 _ _
  have k0 : W1.heap[w.heap.size]? = some (.cells #[.int .i64 kd, .int .i64 se, .int .i64 xi, .int .i64 ep, .int .i64 pr, .slice aV V.length cV, .slice aM M.length cM, .slice aA A.length cA, .bool hd, .slice aH H.length cH] 30 (0, 0)) := by subst hW1; exact at_new rfl
  have hI1 := hIm W1 (okm.below BW)
  (try simp only at hI1)
  rw [hML]
  simp only [Msg.vals]
  go_enter Try.func14, Try.ntmps14
  go_wp2_with (go_at_call 23; rw [← hW1]; clear hW1; refine hI1.mono ?_; rintro x wa ⟨rfl, ba⟩; replace k0 := (ba.block _ (blk_lt k0)).trans k0; replace BW := Rw.next BW ba; clear ba hI1 hIm hI; obtain ⟨p0, p1, p2, p3, p4, p5, p6, p7, p8, p9⟩ := ten k0)
  obtain ⟨W2, hW2⟩ : ∃ W2, W2 = wa.alloc (.cells #[.int .i64 kd, .int .i64 se, .int .i64 xi, .int .i64 ep, .int .i64 pr, .slice aV V.length cV, .slice aM M.length cM, .slice aA A.length cA, .bool hd, .slice aH H.length cH, .slice none 0 0] 102) := ⟨_, rfl⟩
  have b2 : Below wa.heap.size wa W2 := by subst hW2; exact below_alloc1 _ _
  have k1 : W2.heap[wa.heap.size]? = some (.cells #[.int .i64 kd, .int .i64 se, .int .i64 xi, .int .i64 ep, .int .i64 pr, .slice aV V.length cV, .slice aM M.length cM, .slice aA A.length cA, .bool hd, .slice aH H.length cH, .slice none 0 0] 102 (0, 0)) := by subst hW2; exact at_new rfl
  have s0 := blk_lt k0
  have s1 := blk_lt k1
  have sw : w.heap.size ≤ wa.heap.size := BW.size
  have z2 : W2.heap.size = wa.heap.size + 1 := by subst hW2; simp
  replace k0 := (b2.block _ s0).trans k0
  replace BW := Rw.next BW b2
  have lV := Hr.rd_lt rV
  have lM := Hr.rd_lt rM
  have lA := Yb.rd_lt rA
  have lH := Hr.rd_lt rH
  replace rV := rV.below BW
  replace rM := rM.below BW
  replace rA := rA.below BW
  replace rH := rH.below BW
  have hp := pick153 kd se xi ep pr V M A hd H aV aM aA aH cV cM cA cH wa.heap.size W2 _ k1 HK.out
  have hc := flip_any kd se xi ep pr V M A hd H aV aM aA aH cV cM cA cH wa.heap.size W2 k1 f1
  rw [← HEL.out] at hc
  clear b2 p0 p1 p2 p3 p4 p5 p6 p7 p8 p9 hML hL lV lM lA lH rV rM rA rH
  obtain ⟨p0, p1, p2, p3, p4, p5, p6, p7, p8, p9⟩ := ten k0
  obtain ⟨q0, q1, q2, q3, q4, q5, q6, q7, q8, q9, q10⟩ := eleven k1
  have G : Hid (w.heap.size ≠ wa.heap.size ∧ w.heap.size < wa.heap.size ∧ W2.heap.size = wa.heap.size + 1) := ⟨by omega, by omega, z2⟩
  clear s0 s1 sw z2
  go_wp2_with (first
    | (go_at_call 65; rw [← hW2]; clear hW2; refine hp.mono ?_; rintro x wz ⟨rfl, hz⟩; replace hz := hz.symm; subst hz)
    | (go_at_call 153; refine hc.mono ?_; rintro x w3 ⟨rfl, ⟨v1, k1', own1⟩, o3⟩; obtain ⟨gb, cb, rfl, hgb, wtb⟩ := hasI_form own1 (by have := HLL.out; omega) HYL.out; have Gx := G.out; replace k0 := (o3.block _ (blk_lt k0) (by simp; omega)).trans k0; replace BW := o3.below BW BW.size (by omega); have kz := blk_lt k1'; clear k1 o3 p0 p1 p2 p3 p4 p5 p6 p7 p8 p9 q0 q1 q2 q3 q4 q5 q6 q7 q8 q9 q10 Gx; obtain ⟨p0, p1, p2, p3, p4, p5, p6, p7, p8, p9⟩ := ten k0; obtain ⟨q0, q1, q2, q3, q4, q5, q6, q7, q8, q9, q10⟩ := eleven k1'))
  obtain ⟨W4, hW4⟩ : ∃ W4, W4 = w3.alloc (.cells #[.int .i64 kd, .int .i64 se, .int .i64 xi, .int .i64 ep, .int .i64 pr, .slice aV V.length cV, .slice aM M.length cM, .slice aA A.length cA, .bool hd, .slice aH H.length cH, .slice none 0 0] 102) := ⟨_, rfl⟩
  have b4 : Below w3.heap.size w3 W4 := by subst hW4; exact below_alloc1 _ _
  have k2 : W4.heap[w3.heap.size]? = some (.cells #[.int .i64 kd, .int .i64 se, .int .i64 xi, .int .i64 ep, .int .i64 pr, .slice aV V.length cV, .slice aM M.length cM, .slice aA A.length cA, .bool hd, .slice aH H.length cH, .slice none 0 0] 102 (0, 0)) := by subst hW4; exact at_new rfl
  replace k1' := (b4.block _ (blk_lt k1')).trans k1'
  replace BW := Rw.next BW b4
  have own4 := hasI_below own1 b4
  have hgne : gb ≠ w3.heap.size := by have := (own1.1.lt gb (by simp [Value.ownBlock])).2; omega
  have hh := head_any kd se xi ep pr V M A hd H aV aM aA aH cV cM cA cH (12 + (L.length : Int)) w3.heap.size W4 k2 h1 (fit2 (by omega) (by have := HLL.out; omega)) h3 h4
  rw [← HEF.out] at hh
  have Gw : Hid (w.heap.size ≤ W4.heap.size ∧ w.heap.size ≤ w3.heap.size ∧ w3.heap.size ≠ wa.heap.size) := ⟨BW.size, by have := b4; have Gx := G.out; omega, by omega⟩
  clear b4 p0 p1 p2 p3 p4 p5 p6 p7 p8 p9 q0 q1 q2 q3 q4 q5 q6 q7 q8 q9 q10 kz
  obtain ⟨q0, q1, q2, q3, q4, q5, q6, q7, q8, q9, q10⟩ := eleven k1'
  go_wp2_with (first
    | (go_at_call 66; rw [← hW4]; clear hW4; refine hh.mono ?_; rintro x w5 ⟨rfl, ⟨v2, k2', own2⟩, o5⟩; obtain ⟨gh, ch, rfl, hgh, wth⟩ := hasI_form own2 (by have := HF.out; omega) HFY.out; have Gx := Gw.out; replace BW := o5.below BW BW.size (by omega); replace k1' := (o5.block _ (blk_lt k1') (by simp; omega)).trans k1'; have own5 : HasI w5 W2.heap.size (.slice (some ⟨gb, 0, none⟩) L.length cb) L := hasI_keep1 own4 (o5.block _ (own4.1.lt gb (by simp [Value.ownBlock])).2 (by simpa using hgne)); have rdb := (hasI_wt own5 (by have := HLL.out; omega) HYL.out).rd; clear Gx q0 q1 q2 q3 q4 q5 q6 q7 q8 q9 q10; obtain ⟨q0, q1, q2, q3, q4, q5, q6, q7, q8, q9, q10⟩ := eleven k1'; obtain ⟨r0, r1, r2, r3, r4, r5, r6, r7, r8, r9, r10⟩ := eleven k2'; have sz5 := o5.size; clear o5)
    | (at_builtin; refine wpList_app rfl (.tmp 23) (.tmp 25) rfl W4.heap.size _ F L rfl own2 (some ⟨gb, 0, none⟩) gb 0 cb rfl rdb (by have := HF.out; have := HLL.out; omega) sz5 ?_; intro v6 w6 own6 gr6; replace BW := App.below_own own2 BW Gw.out.1 gr6))
  refine bodyPost_ret (v := .tuple #[v6, .bool true]) (by simp [results, Try.results14, go_sem]) rfl ?_
  exact hasI_ok (w0 := w) own6 (by have := HF.out; have := HLL.out; simp; omega) (byt_app HFY.out HYL.out) Gw.out.1 BW

set_option maxHeartbeats 16000000 in
theorem bytesI152 (m : Msg) (w : World) (h : m.Ok w) (hb : msgB m.said = true) (hk : m.kd = 2) : Calls Try.prog 14 #[.agg m.vals] w (ResW w true (msgL m.said)) := by
  have ft := fit_of hb
  have hI := okM_impl
  simp only [msg_vals] at hI
  have hIm := fun W o => hI m W o
  rw [hb] at hIm
  have okm := h
  obtain ⟨kd, se, xi, ⟨ep, pr, V, M, A, hh, aV, bV, oV, cV, aM, bM, oM, cM, aA, bA, oA, cA⟩, hd, H, aH, bH, oH, cH⟩ := m
  (try simp only at hk)
  obtain ⟨⟨rV, rM, rA, wV, wM⟩, hz, rH, wH⟩ := h
  simp only at rV rM rA wV wM hz rH wH
  subst hz
  simp only [Msg.said, Ent.said] at ft ⊢
  have h1 := fit1 (n := kd) (by have := ft.kd; simp only at this; omega) (by have := ft.kd; simp only at this; omega)
  have h3 := ft.se
  have h4 := ft.xi
  (try simp only at h3 h4)
  have hlen := bodyL_len ft
  have hL : bodyL (kd, se, xi, (ep, pr, V, M, A, 0), hd, H) = addL ep pr V M A := by unfold bodyL; rw [if_pos hk]
  have hML : msgL (kd, se, xi, (ep, pr, V, M, A, 0), hd, H) = (dg 1 1 ++ dg kd 1 ++ dg (12 + ((addL ep pr V M A).length : Int)) 2 ++ dg se 4 ++ dg xi 4) ++ addL ep pr V M A := by unfold msgL frontL; rw [hL]
  have hyL : Byt (addL ep pr V M A) := by rw [← hL]; exact bodyL_byt _
  rw [hL] at hlen
  obtain ⟨f1, f2, f3, f4⟩ := ft.add hk
  (try simp only at f1 f2 f3 f4)
  have HK : Hid (kd = 2) := hk
  clear ft hk
  obtain ⟨L, eL⟩ : ∃ L, L = addL ep pr V M A := ⟨_, rfl⟩
  rw [← eL] at hlen hyL hML
  obtain ⟨F, eF⟩ : ∃ F, F = dg 1 1 ++ dg kd 1 ++ dg (12 + (L.length : Int)) 2 ++ dg se 4 ++ dg xi 4 := ⟨_, rfl⟩
  have fl : F.length = 12 := by rw [eF]; simp only [List.length_append, dg_len]
  have fy : Byt F := by rw [eF]; exact byt_app (byt_app (byt_app (byt_app (dg_byt _ _) (dg_byt _ _)) (dg_byt _ _)) (dg_byt _ _)) (dg_byt _ _)
  rw [← eF] at hML
  have HEL : Hid (L = addL ep pr V M A) := eL
  have HEF : Hid (F = dg 1 1 ++ dg kd 1 ++ dg (12 + (L.length : Int)) 2 ++ dg se 4 ++ dg xi 4) := eF
  have HF : Hid (F.length = 12) := fl
  have HFY : Hid (Byt F) := fy
  have HYL : Hid (Byt L) := hyL
  have HLL : Hid (L.length ≤ 199) := hlen
  have z12 : (L.length : Int) ≤ 199 := by omega
  clear eL eF fl fy hyL hlen
  obtain ⟨W1, hW1⟩ : ∃ W1, W1 = w.alloc (.cells #[.int .i64 kd, .int .i64 se, .int .i64 xi, .int .i64 ep, .int .i64 pr, .slice aV V.length cV, .slice aM M.length cM, .slice aA A.length cA, .bool hd, .slice aH H.length cH] 30) := ⟨_, rfl⟩
  have BW : Below w.heap.size w W1 := by subst hW1; exact below_alloc1 _ _
  have k0 : W1.heap[w.heap.size]? = some (.cells #[.int .i64 kd, .int .i64 se, .int .i64 xi, .int .i64 ep, .int .i64 pr, .slice aV V.length cV, .slice aM M.length cM, .slice aA A.length cA, .bool hd, .slice aH H.length cH] 30 (0, 0)) := by subst hW1; exact at_new rfl
  have hI1 := hIm W1 (okm.below BW)
  (try simp only at hI1)
  rw [hML]
  simp only [Msg.vals]
  go_enter Try.func14, Try.ntmps14
  go_wp2_with (go_at_call 23; rw [← hW1]; clear hW1; refine hI1.mono ?_; rintro x wa ⟨rfl, ba⟩; replace k0 := (ba.block _ (blk_lt k0)).trans k0; replace BW := Rw.next BW ba; clear ba hI1 hIm hI; obtain ⟨p0, p1, p2, p3, p4, p5, p6, p7, p8, p9⟩ := ten k0)
  obtain ⟨W2, hW2⟩ : ∃ W2, W2 = wa.alloc (.cells #[.int .i64 kd, .int .i64 se, .int .i64 xi, .int .i64 ep, .int .i64 pr, .slice aV V.length cV, .slice aM M.length cM, .slice aA A.length cA, .bool hd, .slice aH H.length cH, .slice none 0 0] 102) := ⟨_, rfl⟩
  have b2 : Below wa.heap.size wa W2 := by subst hW2; exact below_alloc1 _ _
  have k1 : W2.heap[wa.heap.size]? = some (.cells #[.int .i64 kd, .int .i64 se, .int .i64 xi, .int .i64 ep, .int .i64 pr, .slice aV V.length cV, .slice aM M.length cM, .slice aA A.length cA, .bool hd, .slice aH H.length cH, .slice none 0 0] 102 (0, 0)) := by subst hW2; exact at_new rfl
  have s0 := blk_lt k0
  have s1 := blk_lt k1
  have sw : w.heap.size ≤ wa.heap.size := BW.size
  have z2 : W2.heap.size = wa.heap.size + 1 := by subst hW2; simp
  replace k0 := (b2.block _ s0).trans k0
  replace BW := Rw.next BW b2
  have lV := Hr.rd_lt rV
  have lM := Hr.rd_lt rM
  have lA := Yb.rd_lt rA
  have lH := Hr.rd_lt rH
  replace rV := rV.below BW
  replace rM := rM.below BW
  replace rA := rA.below BW
  replace rH := rH.below BW
  obtain ⟨bA2, oA2, rA2, nA⟩ : ∃ bA2 oA2, Yb.Rd W2 aA bA2 oA2 A ∧ bA2 ≠ wa.heap.size := by
    rcases lA with h0 | h0
    · exact ⟨0, 0, ⟨fun h => by omega, fun i h => by omega, rA.size⟩, by omega⟩
    · exact ⟨bA, oA, rA, by omega⟩
  have hp := pick152 kd se xi ep pr V M A hd H aV aM aA aH cV cM cA cH wa.heap.size W2 _ k1 HK.out
  have hc := add_any kd se xi ep pr V M A hd H aV aM aA aH cV cM cA cH bV oV bM oM bA2 oA2 wa.heap.size W2 k1 rV rM rA2 (by have := (match_fit f3).1; omega) (by have := (match_fit f3).2.1; omega) nA f1 f2 f3 f4
  rw [← HEL.out] at hc
  clear b2 p0 p1 p2 p3 p4 p5 p6 p7 p8 p9 hML hL lV lM lA lH rV rM rA rH
  obtain ⟨p0, p1, p2, p3, p4, p5, p6, p7, p8, p9⟩ := ten k0
  obtain ⟨q0, q1, q2, q3, q4, q5, q6, q7, q8, q9, q10⟩ := eleven k1
  have G : Hid (w.heap.size ≠ wa.heap.size ∧ w.heap.size < wa.heap.size ∧ W2.heap.size = wa.heap.size + 1) := ⟨by omega, by omega, z2⟩
  clear s0 s1 sw z2
  go_wp2_with (first
    | (go_at_call 65; rw [← hW2]; clear hW2; refine hp.mono ?_; rintro x wz ⟨rfl, hz⟩; replace hz := hz.symm; subst hz)
    | (go_at_call 152; refine hc.mono ?_; rintro x w3 ⟨rfl, ⟨v1, k1', own1⟩, o3⟩; obtain ⟨gb, cb, rfl, hgb, wtb⟩ := hasI_form own1 (by have := HLL.out; omega) HYL.out; have Gx := G.out; replace k0 := (o3.block _ (blk_lt k0) (by simp; omega)).trans k0; replace BW := o3.below BW BW.size (by omega); have kz := blk_lt k1'; clear k1 o3 p0 p1 p2 p3 p4 p5 p6 p7 p8 p9 q0 q1 q2 q3 q4 q5 q6 q7 q8 q9 q10 Gx; obtain ⟨p0, p1, p2, p3, p4, p5, p6, p7, p8, p9⟩ := ten k0; obtain ⟨q0, q1, q2, q3, q4, q5, q6, q7, q8, q9, q10⟩ := eleven k1'))
  obtain ⟨W4, hW4⟩ : ∃ W4, W4 = w3.alloc (.cells #[.int .i64 kd, .int .i64 se, .int .i64 xi, .int .i64 ep, .int .i64 pr, .slice aV V.length cV, .slice aM M.length cM, .slice aA A.length cA, .bool hd, .slice aH H.length cH, .slice none 0 0] 102) := ⟨_, rfl⟩
  have b4 : Below w3.heap.size w3 W4 := by subst hW4; exact below_alloc1 _ _
  have k2 : W4.heap[w3.heap.size]? = some (.cells #[.int .i64 kd, .int .i64 se, .int .i64 xi, .int .i64 ep, .int .i64 pr, .slice aV V.length cV, .slice aM M.length cM, .slice aA A.length cA, .bool hd, .slice aH H.length cH, .slice none 0 0] 102 (0, 0)) := by subst hW4; exact at_new rfl
  replace k1' := (b4.block _ (blk_lt k1')).trans k1'
  replace BW := Rw.next BW b4
  have own4 := hasI_below own1 b4
  have hgne : gb ≠ w3.heap.size := by have := (own1.1.lt gb (by simp [Value.ownBlock])).2; omega
  have hh := head_any kd se xi ep pr V M A hd H aV aM aA aH cV cM cA cH (12 + (L.length : Int)) w3.heap.size W4 k2 h1 (fit2 (by omega) (by have := HLL.out; omega)) h3 h4
  rw [← HEF.out] at hh
  have Gw : Hid (w.heap.size ≤ W4.heap.size ∧ w.heap.size ≤ w3.heap.size ∧ w3.heap.size ≠ wa.heap.size) := ⟨BW.size, by have := b4; have Gx := G.out; omega, by omega⟩
  clear b4 p0 p1 p2 p3 p4 p5 p6 p7 p8 p9 q0 q1 q2 q3 q4 q5 q6 q7 q8 q9 q10 kz
  obtain ⟨q0, q1, q2, q3, q4, q5, q6, q7, q8, q9, q10⟩ := eleven k1'
  go_wp2_with (first
    | (go_at_call 66; rw [← hW4]; clear hW4; refine hh.mono ?_; rintro x w5 ⟨rfl, ⟨v2, k2', own2⟩, o5⟩; obtain ⟨gh, ch, rfl, hgh, wth⟩ := hasI_form own2 (by have := HF.out; omega) HFY.out; have Gx := Gw.out; replace BW := o5.below BW BW.size (by omega); replace k1' := (o5.block _ (blk_lt k1') (by simp; omega)).trans k1'; have own5 : HasI w5 W2.heap.size (.slice (some ⟨gb, 0, none⟩) L.length cb) L := hasI_keep1 own4 (o5.block _ (own4.1.lt gb (by simp [Value.ownBlock])).2 (by simpa using hgne)); have rdb := (hasI_wt own5 (by have := HLL.out; omega) HYL.out).rd; clear Gx q0 q1 q2 q3 q4 q5 q6 q7 q8 q9 q10; obtain ⟨q0, q1, q2, q3, q4, q5, q6, q7, q8, q9, q10⟩ := eleven k1'; obtain ⟨r0, r1, r2, r3, r4, r5, r6, r7, r8, r9, r10⟩ := eleven k2'; have sz5 := o5.size; clear o5)
    | (at_builtin; refine wpList_app rfl (.tmp 23) (.tmp 25) rfl W4.heap.size _ F L rfl own2 (some ⟨gb, 0, none⟩) gb 0 cb rfl rdb (by have := HF.out; have := HLL.out; omega) sz5 ?_; intro v6 w6 own6 gr6; replace BW := App.below_own own2 BW Gw.out.1 gr6))
  refine bodyPost_ret (v := .tuple #[v6, .bool true]) (by simp [results, Try.results14, go_sem]) rfl ?_
  exact hasI_ok (w0 := w) own6 (by have := HF.out; have := HLL.out; simp; omega) (byt_app HFY.out HYL.out) Gw.out.1 BW

set_option maxHeartbeats 16000000 in
theorem bytesI154 (m : Msg) (w : World) (h : m.Ok w) (hb : msgB m.said = true) (hk : m.kd = 5) : Calls Try.prog 14 #[.agg m.vals] w (ResW w true (msgL m.said)) := by
  have ft := fit_of hb
  have hI := okM_impl
  simp only [msg_vals] at hI
  have hIm := fun W o => hI m W o
  rw [hb] at hIm
  have okm := h
  obtain ⟨kd, se, xi, ⟨ep, pr, V, M, A, hh, aV, bV, oV, cV, aM, bM, oM, cM, aA, bA, oA, cA⟩, hd, H, aH, bH, oH, cH⟩ := m
  (try simp only at hk)
  obtain ⟨⟨rV, rM, rA, wV, wM⟩, hz, rH, wH⟩ := h
  simp only at rV rM rA wV wM hz rH wH
  subst hz
  simp only [Msg.said, Ent.said] at ft ⊢
  have h1 := fit1 (n := kd) (by have := ft.kd; simp only at this; omega) (by have := ft.kd; simp only at this; omega)
  have h3 := ft.se
  have h4 := ft.xi
  (try simp only at h3 h4)
  have hlen := bodyL_len ft
  have hL : bodyL (kd, se, xi, (ep, pr, V, M, A, 0), hd, H) = noteL hd H := by unfold bodyL; rw [if_neg (by simp only; omega), if_neg (by simp only; omega), if_pos hk]
  have hML : msgL (kd, se, xi, (ep, pr, V, M, A, 0), hd, H) = (dg 1 1 ++ dg kd 1 ++ dg (12 + ((noteL hd H).length : Int)) 2 ++ dg se 4 ++ dg xi 4) ++ noteL hd H := by unfold msgL frontL; rw [hL]
  have hyL : Byt (noteL hd H) := by rw [← hL]; exact bodyL_byt _
  rw [hL] at hlen
  have F1 : Hid (H.length = 8 ∧ ∀ k, k < 8 → numOkB (H.getD k 0) 6 = true) := head_fit (ft.note hk)
  have HK : Hid (kd = 5) := hk
  clear ft hk
  obtain ⟨L, eL⟩ : ∃ L, L = noteL hd H := ⟨_, rfl⟩
  rw [← eL] at hlen hyL hML
  obtain ⟨F, eF⟩ : ∃ F, F = dg 1 1 ++ dg kd 1 ++ dg (12 + (L.length : Int)) 2 ++ dg se 4 ++ dg xi 4 := ⟨_, rfl⟩
  have fl : F.length = 12 := by rw [eF]; simp only [List.length_append, dg_len]
  have fy : Byt F := by rw [eF]; exact byt_app (byt_app (byt_app (byt_app (dg_byt _ _) (dg_byt _ _)) (dg_byt _ _)) (dg_byt _ _)) (dg_byt _ _)
  rw [← eF] at hML
  have HEL : Hid (L = noteL hd H) := eL
  have HEF : Hid (F = dg 1 1 ++ dg kd 1 ++ dg (12 + (L.length : Int)) 2 ++ dg se 4 ++ dg xi 4) := eF
  have HF : Hid (F.length = 12) := fl
  have HFY : Hid (Byt F) := fy
  have HYL : Hid (Byt L) := hyL
  have HLL : Hid (L.length ≤ 199) := hlen
  have z12 : (L.length : Int) ≤ 199 := by omega
  clear eL eF fl fy hyL hlen
  obtain ⟨W1, hW1⟩ : ∃ W1, W1 = w.alloc (.cells #[.int .i64 kd, .int .i64 se, .int .i64 xi, .int .i64 ep, .int .i64 pr, .slice aV V.length cV, .slice aM M.length cM, .slice aA A.length cA, .bool hd, .slice aH H.length cH] 30) := ⟨_, rfl⟩
  have BW : Below w.heap.size w W1 := by subst hW1; exact below_alloc1 _ _
  have k0 : W1.heap[w.heap.size]? = some (.cells #[.int .i64 kd, .int .i64 se, .int .i64 xi, .int .i64 ep, .int .i64 pr, .slice aV V.length cV, .slice aM M.length cM, .slice aA A.length cA, .bool hd, .slice aH H.length cH] 30 (0, 0)) := by subst hW1; exact at_new rfl
  have hI1 := hIm W1 (okm.below BW)
  (try simp only at hI1)
  rw [hML]
  simp only [Msg.vals]
  go_enter Try.func14, Try.ntmps14
  go_wp2_with (go_at_call 23; rw [← hW1]; clear hW1; refine hI1.mono ?_; rintro x wa ⟨rfl, ba⟩; replace k0 := (ba.block _ (blk_lt k0)).trans k0; replace BW := Rw.next BW ba; clear ba hI1 hIm hI; obtain ⟨p0, p1, p2, p3, p4, p5, p6, p7, p8, p9⟩ := ten k0)
  obtain ⟨W2, hW2⟩ : ∃ W2, W2 = wa.alloc (.cells #[.int .i64 kd, .int .i64 se, .int .i64 xi, .int .i64 ep, .int .i64 pr, .slice aV V.length cV, .slice aM M.length cM, .slice aA A.length cA, .bool hd, .slice aH H.length cH, .slice none 0 0] 102) := ⟨_, rfl⟩
  have b2 : Below wa.heap.size wa W2 := by subst hW2; exact below_alloc1 _ _
  have k1 : W2.heap[wa.heap.size]? = some (.cells #[.int .i64 kd, .int .i64 se, .int .i64 xi, .int .i64 ep, .int .i64 pr, .slice aV V.length cV, .slice aM M.length cM, .slice aA A.length cA, .bool hd, .slice aH H.length cH, .slice none 0 0] 102 (0, 0)) := by subst hW2; exact at_new rfl
  have s0 := blk_lt k0
  have s1 := blk_lt k1
  have sw : w.heap.size ≤ wa.heap.size := BW.size
  have z2 : W2.heap.size = wa.heap.size + 1 := by subst hW2; simp
  replace k0 := (b2.block _ s0).trans k0
  replace BW := Rw.next BW b2
  have lV := Hr.rd_lt rV
  have lM := Hr.rd_lt rM
  have lA := Yb.rd_lt rA
  have lH := Hr.rd_lt rH
  replace rV := rV.below BW
  replace rM := rM.below BW
  replace rA := rA.below BW
  replace rH := rH.below BW
  have hp := pick154 kd se xi ep pr V M A hd H aV aM aA aH cV cM cA cH wa.heap.size W2 _ k1 HK.out
  have hc := note_num kd se xi ep pr V M A hd H aV aM aA aH cV cM cA cH bH oH wa.heap.size _ rfl W2 k1 rH (by have := F1.out.1; omega) F1.out.1 F1.out.2
  rw [← HEL.out] at hc
  clear b2 p0 p1 p2 p3 p4 p5 p6 p7 p8 p9 hML hL lV lM lA lH rV rM rA rH
  obtain ⟨p0, p1, p2, p3, p4, p5, p6, p7, p8, p9⟩ := ten k0
  obtain ⟨q0, q1, q2, q3, q4, q5, q6, q7, q8, q9, q10⟩ := eleven k1
  have G : Hid (w.heap.size ≠ wa.heap.size ∧ w.heap.size < wa.heap.size ∧ W2.heap.size = wa.heap.size + 1) := ⟨by omega, by omega, z2⟩
  clear s0 s1 sw z2
  go_wp2_with (first
    | (go_at_call 65; rw [← hW2]; clear hW2; refine hp.mono ?_; rintro x wz ⟨rfl, hz⟩; replace hz := hz.symm; subst hz)
    | (go_at_call 154; refine hc.mono ?_; rintro x w3 ⟨rfl, ⟨v1, k1', own1⟩, o3⟩; obtain ⟨gb, cb, rfl, hgb, wtb⟩ := hasI_form own1 (by have := HLL.out; omega) HYL.out; have Gx := G.out; replace k0 := (o3.block _ (blk_lt k0) (by simp; omega)).trans k0; replace BW := o3.below BW BW.size (by omega); have kz := blk_lt k1'; clear k1 o3 p0 p1 p2 p3 p4 p5 p6 p7 p8 p9 q0 q1 q2 q3 q4 q5 q6 q7 q8 q9 q10 Gx; obtain ⟨p0, p1, p2, p3, p4, p5, p6, p7, p8, p9⟩ := ten k0; obtain ⟨q0, q1, q2, q3, q4, q5, q6, q7, q8, q9, q10⟩ := eleven k1'))
  obtain ⟨W4, hW4⟩ : ∃ W4, W4 = w3.alloc (.cells #[.int .i64 kd, .int .i64 se, .int .i64 xi, .int .i64 ep, .int .i64 pr, .slice aV V.length cV, .slice aM M.length cM, .slice aA A.length cA, .bool hd, .slice aH H.length cH, .slice none 0 0] 102) := ⟨_, rfl⟩
  have b4 : Below w3.heap.size w3 W4 := by subst hW4; exact below_alloc1 _ _
  have k2 : W4.heap[w3.heap.size]? = some (.cells #[.int .i64 kd, .int .i64 se, .int .i64 xi, .int .i64 ep, .int .i64 pr, .slice aV V.length cV, .slice aM M.length cM, .slice aA A.length cA, .bool hd, .slice aH H.length cH, .slice none 0 0] 102 (0, 0)) := by subst hW4; exact at_new rfl
  replace k1' := (b4.block _ (blk_lt k1')).trans k1'
  replace BW := Rw.next BW b4
  have own4 := hasI_below own1 b4
  have hgne : gb ≠ w3.heap.size := by have := (own1.1.lt gb (by simp [Value.ownBlock])).2; omega
  have hh := head_any kd se xi ep pr V M A hd H aV aM aA aH cV cM cA cH (12 + (L.length : Int)) w3.heap.size W4 k2 h1 (fit2 (by omega) (by have := HLL.out; omega)) h3 h4
  rw [← HEF.out] at hh
  have Gw : Hid (w.heap.size ≤ W4.heap.size ∧ w.heap.size ≤ w3.heap.size ∧ w3.heap.size ≠ wa.heap.size) := ⟨BW.size, by have := b4; have Gx := G.out; omega, by omega⟩
  clear b4 p0 p1 p2 p3 p4 p5 p6 p7 p8 p9 q0 q1 q2 q3 q4 q5 q6 q7 q8 q9 q10 kz
  obtain ⟨q0, q1, q2, q3, q4, q5, q6, q7, q8, q9, q10⟩ := eleven k1'
  go_wp2_with (first
    | (go_at_call 66; rw [← hW4]; clear hW4; refine hh.mono ?_; rintro x w5 ⟨rfl, ⟨v2, k2', own2⟩, o5⟩; obtain ⟨gh, ch, rfl, hgh, wth⟩ := hasI_form own2 (by have := HF.out; omega) HFY.out; have Gx := Gw.out; replace BW := o5.below BW BW.size (by omega); replace k1' := (o5.block _ (blk_lt k1') (by simp; omega)).trans k1'; have own5 : HasI w5 W2.heap.size (.slice (some ⟨gb, 0, none⟩) L.length cb) L := hasI_keep1 own4 (o5.block _ (own4.1.lt gb (by simp [Value.ownBlock])).2 (by simpa using hgne)); have rdb := (hasI_wt own5 (by have := HLL.out; omega) HYL.out).rd; clear Gx q0 q1 q2 q3 q4 q5 q6 q7 q8 q9 q10; obtain ⟨q0, q1, q2, q3, q4, q5, q6, q7, q8, q9, q10⟩ := eleven k1'; obtain ⟨r0, r1, r2, r3, r4, r5, r6, r7, r8, r9, r10⟩ := eleven k2'; have sz5 := o5.size; clear o5)
    | (at_builtin; refine wpList_app rfl (.tmp 23) (.tmp 25) rfl W4.heap.size _ F L rfl own2 (some ⟨gb, 0, none⟩) gb 0 cb rfl rdb (by have := HF.out; have := HLL.out; omega) sz5 ?_; intro v6 w6 own6 gr6; replace BW := App.below_own own2 BW Gw.out.1 gr6))
  refine bodyPost_ret (v := .tuple #[v6, .bool true]) (by simp [results, Try.results14, go_sem]) rfl ?_
  exact hasI_ok (w0 := w) own6 (by have := HF.out; have := HLL.out; simp; omega) (byt_app HFY.out HYL.out) Gw.out.1 BW

set_option maxHeartbeats 16000000 in
theorem bytesI155 (m : Msg) (w : World) (h : m.Ok w) (hb : msgB m.said = true) (hk : ¬ m.kd = 2 ∧ ¬ m.kd = 3 ∧ ¬ m.kd = 5) : Calls Try.prog 14 #[.agg m.vals] w (ResW w true (msgL m.said)) := by
  have ft := fit_of hb
  have hI := okM_impl
  simp only [msg_vals] at hI
  have hIm := fun W o => hI m W o
  rw [hb] at hIm
  have okm := h
  obtain ⟨kd, se, xi, ⟨ep, pr, V, M, A, hh, aV, bV, oV, cV, aM, bM, oM, cM, aA, bA, oA, cA⟩, hd, H, aH, bH, oH, cH⟩ := m
  (try simp only at hk)
  obtain ⟨⟨rV, rM, rA, wV, wM⟩, hz, rH, wH⟩ := h
  simp only at rV rM rA wV wM hz rH wH
  subst hz
  simp only [Msg.said, Ent.said] at ft ⊢
  have h1 := fit1 (n := kd) (by have := ft.kd; simp only at this; omega) (by have := ft.kd; simp only at this; omega)
  have h3 := ft.se
  have h4 := ft.xi
  (try simp only at h3 h4)
  have hlen := bodyL_len ft
  have hL : bodyL (kd, se, xi, (ep, pr, V, M, A, 0), hd, H) = ([] : List Int) := by unfold bodyL; rw [if_neg hk.1, if_neg hk.2.1, if_neg hk.2.2]
  have hML : msgL (kd, se, xi, (ep, pr, V, M, A, 0), hd, H) = (dg 1 1 ++ dg kd 1 ++ dg (12 + ((([] : List Int)).length : Int)) 2 ++ dg se 4 ++ dg xi 4) ++ ([] : List Int) := by unfold msgL frontL; rw [hL]
  have hyL : Byt (([] : List Int)) := by rw [← hL]; exact bodyL_byt _
  rw [hL] at hlen
  have HK : Hid (¬ kd = 2 ∧ ¬ kd = 3 ∧ ¬ kd = 5) := hk
  clear ft hk
  obtain ⟨L, eL⟩ : ∃ L, L = ([] : List Int) := ⟨_, rfl⟩
  rw [← eL] at hlen hyL hML
  obtain ⟨F, eF⟩ : ∃ F, F = dg 1 1 ++ dg kd 1 ++ dg (12 + (L.length : Int)) 2 ++ dg se 4 ++ dg xi 4 := ⟨_, rfl⟩
  have fl : F.length = 12 := by rw [eF]; simp only [List.length_append, dg_len]
  have fy : Byt F := by rw [eF]; exact byt_app (byt_app (byt_app (byt_app (dg_byt _ _) (dg_byt _ _)) (dg_byt _ _)) (dg_byt _ _)) (dg_byt _ _)
  rw [← eF] at hML
  have HEL : Hid (L = ([] : List Int)) := eL
  have HEF : Hid (F = dg 1 1 ++ dg kd 1 ++ dg (12 + (L.length : Int)) 2 ++ dg se 4 ++ dg xi 4) := eF
  have HF : Hid (F.length = 12) := fl
  have HFY : Hid (Byt F) := fy
  have HYL : Hid (Byt L) := hyL
  have HLL : Hid (L.length ≤ 199) := hlen
  have z12 : (L.length : Int) ≤ 199 := by omega
  clear eL eF fl fy hyL hlen
  obtain ⟨W1, hW1⟩ : ∃ W1, W1 = w.alloc (.cells #[.int .i64 kd, .int .i64 se, .int .i64 xi, .int .i64 ep, .int .i64 pr, .slice aV V.length cV, .slice aM M.length cM, .slice aA A.length cA, .bool hd, .slice aH H.length cH] 30) := ⟨_, rfl⟩
  have BW : Below w.heap.size w W1 := by subst hW1; exact below_alloc1 _ _
  have k0 : W1.heap[w.heap.size]? = some (.cells #[.int .i64 kd, .int .i64 se, .int .i64 xi, .int .i64 ep, .int .i64 pr, .slice aV V.length cV, .slice aM M.length cM, .slice aA A.length cA, .bool hd, .slice aH H.length cH] 30 (0, 0)) := by subst hW1; exact at_new rfl
  have hI1 := hIm W1 (okm.below BW)
  (try simp only at hI1)
  rw [hML]
  simp only [Msg.vals]
  go_enter Try.func14, Try.ntmps14
  go_wp2_with (go_at_call 23; rw [← hW1]; clear hW1; refine hI1.mono ?_; rintro x wa ⟨rfl, ba⟩; replace k0 := (ba.block _ (blk_lt k0)).trans k0; replace BW := Rw.next BW ba; clear ba hI1 hIm hI; obtain ⟨p0, p1, p2, p3, p4, p5, p6, p7, p8, p9⟩ := ten k0)
  obtain ⟨W2, hW2⟩ : ∃ W2, W2 = wa.alloc (.cells #[.int .i64 kd, .int .i64 se, .int .i64 xi, .int .i64 ep, .int .i64 pr, .slice aV V.length cV, .slice aM M.length cM, .slice aA A.length cA, .bool hd, .slice aH H.length cH, .slice none 0 0] 102) := ⟨_, rfl⟩
  have b2 : Below wa.heap.size wa W2 := by subst hW2; exact below_alloc1 _ _
  have k1 : W2.heap[wa.heap.size]? = some (.cells #[.int .i64 kd, .int .i64 se, .int .i64 xi, .int .i64 ep, .int .i64 pr, .slice aV V.length cV, .slice aM M.length cM, .slice aA A.length cA, .bool hd, .slice aH H.length cH, .slice none 0 0] 102 (0, 0)) := by subst hW2; exact at_new rfl
  have s0 := blk_lt k0
  have s1 := blk_lt k1
  have sw : w.heap.size ≤ wa.heap.size := BW.size
  have z2 : W2.heap.size = wa.heap.size + 1 := by subst hW2; simp
  replace k0 := (b2.block _ s0).trans k0
  replace BW := Rw.next BW b2
  have lV := Hr.rd_lt rV
  have lM := Hr.rd_lt rM
  have lA := Yb.rd_lt rA
  have lH := Hr.rd_lt rH
  replace rV := rV.below BW
  replace rM := rM.below BW
  replace rA := rA.below BW
  replace rH := rH.below BW
  have hp := pick155 kd se xi ep pr V M A hd H aV aM aA aH cV cM cA cH wa.heap.size W2 _ k1 HK.out
  have hc := none_any wa.heap.size W2
  clear b2 p0 p1 p2 p3 p4 p5 p6 p7 p8 p9 hML hL lV lM lA lH rV rM rA rH
  obtain ⟨p0, p1, p2, p3, p4, p5, p6, p7, p8, p9⟩ := ten k0
  obtain ⟨q0, q1, q2, q3, q4, q5, q6, q7, q8, q9, q10⟩ := eleven k1
  have G : Hid (w.heap.size ≠ wa.heap.size ∧ w.heap.size < wa.heap.size ∧ W2.heap.size = wa.heap.size + 1) := ⟨by omega, by omega, z2⟩
  clear s0 s1 sw z2
  go_wp2_with (first
    | (go_at_call 65; rw [← hW2]; clear hW2; refine hp.mono ?_; rintro x wz ⟨rfl, hz⟩; replace hz := hz.symm; subst hz)
    | (go_at_call 155; refine hc.mono ?_; rintro x w3 ⟨rfl, hz⟩; have o3 : Below W2.heap.size W2 w3 := (by rw [hz]; exact Below.refl _ _); have k1' := (o3.block _ (blk_lt k1)).trans k1; replace k0 := (o3.block _ (blk_lt k0)).trans k0; replace BW := Rw.next BW o3; have kz := blk_lt k1'; clear k1 o3 hz p0 p1 p2 p3 p4 p5 p6 p7 p8 p9 q0 q1 q2 q3 q4 q5 q6 q7 q8 q9 q10; obtain ⟨p0, p1, p2, p3, p4, p5, p6, p7, p8, p9⟩ := ten k0; obtain ⟨q0, q1, q2, q3, q4, q5, q6, q7, q8, q9, q10⟩ := eleven k1'))
  obtain ⟨W4, hW4⟩ : ∃ W4, W4 = w3.alloc (.cells #[.int .i64 kd, .int .i64 se, .int .i64 xi, .int .i64 ep, .int .i64 pr, .slice aV V.length cV, .slice aM M.length cM, .slice aA A.length cA, .bool hd, .slice aH H.length cH, .slice none 0 0] 102) := ⟨_, rfl⟩
  have b4 : Below w3.heap.size w3 W4 := by subst hW4; exact below_alloc1 _ _
  have k2 : W4.heap[w3.heap.size]? = some (.cells #[.int .i64 kd, .int .i64 se, .int .i64 xi, .int .i64 ep, .int .i64 pr, .slice aV V.length cV, .slice aM M.length cM, .slice aA A.length cA, .bool hd, .slice aH H.length cH, .slice none 0 0] 102 (0, 0)) := by subst hW4; exact at_new rfl
  replace k1' := (b4.block _ (blk_lt k1')).trans k1'
  replace BW := Rw.next BW b4
  have hh := head_any kd se xi ep pr V M A hd H aV aM aA aH cV cM cA cH (12) w3.heap.size W4 k2 h1 (fit2 (by omega) (by have := HLL.out; omega)) h3 h4
  have hF2 : F = dg 1 1 ++ dg kd 1 ++ dg 12 2 ++ dg se 4 ++ dg xi 4 := by rw [HEF.out, HEL.out]; simp
  rw [← hF2] at hh
  clear hF2
  have Gw : Hid (w.heap.size ≤ W4.heap.size ∧ w.heap.size ≤ w3.heap.size ∧ w3.heap.size ≠ wa.heap.size) := ⟨BW.size, by have := b4; have Gx := G.out; omega, by omega⟩
  clear b4 p0 p1 p2 p3 p4 p5 p6 p7 p8 p9 q0 q1 q2 q3 q4 q5 q6 q7 q8 q9 q10 kz
  obtain ⟨q0, q1, q2, q3, q4, q5, q6, q7, q8, q9, q10⟩ := eleven k1'
  go_wp2_with (first
    | (go_at_call 66; rw [← hW4]; clear hW4; refine hh.mono ?_; rintro x w5 ⟨rfl, ⟨v2, k2', own2⟩, o5⟩; obtain ⟨gh, ch, rfl, hgh, wth⟩ := hasI_form own2 (by have := HF.out; omega) HFY.out; have Gx := Gw.out; replace BW := o5.below BW BW.size (by omega); replace k1' := (o5.block _ (blk_lt k1') (by simp; omega)).trans k1'; clear Gx q0 q1 q2 q3 q4 q5 q6 q7 q8 q9 q10; obtain ⟨q0, q1, q2, q3, q4, q5, q6, q7, q8, q9, q10⟩ := eleven k1'; obtain ⟨r0, r1, r2, r3, r4, r5, r6, r7, r8, r9, r10⟩ := eleven k2'; have sz5 := o5.size; clear o5)
    | (at_builtin; refine wpList_app rfl (.tmp 23) (.tmp 25) rfl W4.heap.size _ F L rfl own2 none 0 0 0 (by rw [HEL.out]; rfl) (by rw [HEL.out]; exact ⟨fun h => by simp at h, fun i h => by simp at h, by simp, byt_nil⟩) (by have := HF.out; have := HLL.out; omega) sz5 ?_; intro v6 w6 own6 gr6; replace BW := App.below_own own2 BW Gw.out.1 gr6))
  refine bodyPost_ret (v := .tuple #[v6, .bool true]) (by simp [results, Try.results14, go_sem]) rfl ?_
  exact hasI_ok (w0 := w) own6 (by have := HF.out; have := HLL.out; simp; omega) (byt_app HFY.out HYL.out) Gw.out.1 BW

theorem bytesI (m : Msg) (w : World) (h : m.Ok w) : Calls Try.prog 14 #[.agg m.vals] w (ResW w (msgB m.said) (writtenL m.said)) := by
  by_cases hb : msgB m.said = true
  · have e : writtenL m.said = msgL m.said := by unfold writtenL; rw [if_pos hb]
    rw [e, hb]
    by_cases k2 : m.kd = 2
    · exact bytesI152 m w h hb k2
    by_cases k3 : m.kd = 3
    · exact bytesI153 m w h hb k3
    by_cases k5 : m.kd = 5
    · exact bytesI154 m w h hb k5
    · exact bytesI155 m w h hb ⟨k2, k3, k5⟩
  · exact bytesI_no m w h (by simpa using hb)


end Go.Proofs.Ytcbhpmgjmpbpmaa.Ja
namespace Go.Proofs.Ytcbhpmgjmpbpmaa.Ja
open Go Go.RowKit
set_option maxRecDepth 8000
set_option linter.unusedSimpArgs false
set_option linter.unusedVariables false
open Num Pl Rw Mk Un Put App Ea Ga

theorem put1 (v : Value) (B : Nat) (l : List Int) (n : Int) (w : World) (h : HasI w B v l) (hs : l.length ≤ 1000) (hy : Byt l) (hn : numOkB n 1 = true) :
    Calls Try.prog 73 #[v, .int .i64 n, .int .i64 1] w fun e w' => ∃ v', e = .returned (.tuple #[v', .bool true]) ∧ HasI w' w.heap.size v' (l ++ dg n 1) ∧ Below w.heap.size w w' :=
  specPut_hasI v B l n 1 w h (by omega) hy hn (by omega)
theorem put2 (v : Value) (B : Nat) (l : List Int) (n : Int) (w : World) (h : HasI w B v l) (hs : l.length ≤ 1000) (hy : Byt l) (hn : numOkB n 2 = true) :
    Calls Try.prog 73 #[v, .int .i64 n, .int .i64 2] w fun e w' => ∃ v', e = .returned (.tuple #[v', .bool true]) ∧ HasI w' w.heap.size v' (l ++ dg n 2) ∧ Below w.heap.size w w' :=
  specPut_hasI v B l n 2 w h (by omega) hy hn (by omega)
theorem put4 (v : Value) (B : Nat) (l : List Int) (n : Int) (w : World) (h : HasI w B v l) (hs : l.length ≤ 1000) (hy : Byt l) (hn : numOkB n 4 = true) :
    Calls Try.prog 73 #[v, .int .i64 n, .int .i64 4] w fun e w' => ∃ v', e = .returned (.tuple #[v', .bool true]) ∧ HasI w' w.heap.size v' (l ++ dg n 4) ∧ Below w.heap.size w w' :=
  specPut_hasI v B l n 4 w h (by omega) hy hn (by omega)
theorem put6 (v : Value) (B : Nat) (l : List Int) (n : Int) (w : World) (h : HasI w B v l) (hs : l.length ≤ 1000) (hy : Byt l) (hn : numOkB n 6 = true) :
    Calls Try.prog 73 #[v, .int .i64 n, .int .i64 6] w fun e w' => ∃ v', e = .returned (.tuple #[v', .bool true]) ∧ HasI w' w.heap.size v' (l ++ dg n 6) ∧ Below w.heap.size w w' :=
  specPut_hasI v B l n 6 w h (by omega) hy hn (by omega)

/-- The bytes behind, in memory of the call's own. -/
def ResO (w : World) (L : List Int) (e : Ending) (w' : World) : Prop := ∃ v, e = .returned v ∧ HasI w' w.heap.size v L ∧ Below w.heap.size w w'
theorem own_one (w : World) (x : Int) (h0 : 0 ≤ x ∧ x ≤ 255) : Rd (w.alloc (.cells #[.int .u8 x] 5)) (some ⟨w.heap.size, 0, none⟩) w.heap.size 0 [x] :=
  (hasI_wt (Hp.own_made w [x] 1 #[.int .u8 x] rfl rfl (by decide)) (by simp) (fun n hn => by simp at hn; subst hn; exact h0)).rd

set_option maxHeartbeats 8000000 in
theorem bodyS3 (m : Msg) (w : World) (h : m.Ok w) (hk : m.kd = 3) (f1 : numOkB m.e.ep 4 = true) : Calls Try.prog 72 #[.agg m.vals] w (ResO w (dg m.e.ep 4)) := by
  obtain ⟨kd, se, xi, ⟨ep, pr, V, M, A, hh, aV, bV, oV, cV, aM, bM, oM, cM, aA, bA, oA, cA⟩, hd, H, aH, bH, oH, cH⟩ := m
  obtain ⟨⟨rV, rM, rA, wV, wM⟩, hz, rH, wH⟩ := h
  simp only at rV rM rA wV wM hz rH wH hk
  subst hz
  simp only [Msg.vals, Msg.said, Ent.said] at ⊢
  obtain ⟨W1, hW1⟩ : ∃ W1, W1 = w.alloc (.cells #[.int .i64 kd, .int .i64 se, .int .i64 xi, .int .i64 ep, .int .i64 pr, .slice aV V.length cV, .slice aM M.length cM, .slice aA A.length cA, .bool hd, .slice aH H.length cH] 30) := ⟨_, rfl⟩
  have BW : Below w.heap.size w W1 := by subst hW1; exact below_alloc1 _ _
  have k0 : W1.heap[w.heap.size]? = some (.cells #[.int .i64 kd, .int .i64 se, .int .i64 xi, .int .i64 ep, .int .i64 pr, .slice aV V.length cV, .slice aM M.length cM, .slice aA A.length cA, .bool hd, .slice aH H.length cH] 30 (0, 0)) := by subst hW1; exact at_new rfl
  have kl := blk_lt k0
  obtain ⟨W2, hW2⟩ : ∃ W2, W2 = W1.alloc (.cells #[] 5) := ⟨_, rfl⟩
  have B2 : Below W1.heap.size W1 W2 := by subst hW2; exact below_alloc1 _ _
  have own : HasI W2 W1.heap.size (.slice (some ⟨W1.heap.size, 0, none⟩) 0 0) [] := by subst hW2; exact own_empty W1
  have z1 : W1.heap.size = w.heap.size + 1 := by subst hW1; simp
  have K0 : Hid (W1.heap[w.heap.size]? = some (.cells #[.int .i64 kd, .int .i64 se, .int .i64 xi, .int .i64 ep, .int .i64 pr, .slice aV V.length cV, .slice aM M.length cM, .slice aA A.length cA, .bool hd, .slice aH H.length cH] 30 (0, 0))) := k0
  have KL : Hid (w.heap.size < W1.heap.size) := kl
  have HW2 : Hid (W2 = (w.alloc (.cells #[.int .i64 kd, .int .i64 se, .int .i64 xi, .int .i64 ep, .int .i64 pr, .slice aV V.length cV, .slice aM M.length cM, .slice aA A.length cA, .bool hd, .slice aH H.length cH] 30)).alloc (.cells #[] 5)) := (by rw [hW2, hW1] : W2 = (w.alloc (.cells #[.int .i64 kd, .int .i64 se, .int .i64 xi, .int .i64 ep, .int .i64 pr, .slice aV V.length cV, .slice aM M.length cM, .slice aA A.length cA, .bool hd, .slice aH H.length cH] 30)).alloc (.cells #[] 5))
  have HBW : Hid (Below w.heap.size w W1) := BW
  have HZ1 : Hid (W1.heap.size = w.heap.size + 1) := z1
  have HZ2 : Hid (w.heap.size ≤ W2.heap.size) := (by have := B2.size; omega : w.heap.size ≤ W2.heap.size)
  have HZ3 : Hid (W2.heap.size = w.heap.size + 1 + 1) := (by rw [hW2, hW1]; simp : W2.heap.size = w.heap.size + 1 + 1)
  clear hW1 hW2 BW kl
  replace k0 := (B2.block _ KL.out).trans k0
  simp only at f1
  have HK : Hid (kd = 3) := hk
  subst hk
  rw [z1] at own
  clear z1
  obtain ⟨p0, p1, p2, p3, p4, p5, p6, p7, p8, p9⟩ := ten k0
  go_enter Try.func72, Try.ntmps72
  go_wp2_with (go_at_call 73; rw [← HW2.out]; refine (put4 _ _ _ _ _ own (by first | exact Nat.zero_le _ | (simp only [List.length_append, List.length_nil, List.length_cons, dg_len, pairsL_len, actsL_len, headL_len]; omega)) (by repeat (first | exact dg_byt _ _ | exact pairsL_byt _ _ _ | exact actsL_byt _ _ | exact headL_byt _ _ | exact byt_nil | refine byt_app ?_ ?_)) f1).mono ?_; rintro x w3 ⟨v3, rfl, own3, b3⟩; replace k0 := (b3.block _ (by have := B2.size; have := KL.out; omega)).trans k0; replace B2 := Rw.next B2 b3; clear p0 p1 p2 p3 p4 p5 p6 p7 p8 p9; obtain ⟨p0, p1, p2, p3, p4, p5, p6, p7, p8, p9⟩ := ten k0)
  go_ret
  exact ⟨v3, rfl, hasI_mono (by simpa using own3) HZ2.out, Rw.next HBW.out B2⟩

set_option maxHeartbeats 8000000 in
theorem bodyS0 (m : Msg) (w : World) (h : m.Ok w) (hk : ¬ m.kd = 2 ∧ ¬ m.kd = 3 ∧ ¬ m.kd = 5) : Calls Try.prog 72 #[.agg m.vals] w (ResO w []) := by
  obtain ⟨kd, se, xi, ⟨ep, pr, V, M, A, hh, aV, bV, oV, cV, aM, bM, oM, cM, aA, bA, oA, cA⟩, hd, H, aH, bH, oH, cH⟩ := m
  obtain ⟨⟨rV, rM, rA, wV, wM⟩, hz, rH, wH⟩ := h
  simp only at rV rM rA wV wM hz rH wH hk
  subst hz
  simp only [Msg.vals, Msg.said, Ent.said] at ⊢
  obtain ⟨W1, hW1⟩ : ∃ W1, W1 = w.alloc (.cells #[.int .i64 kd, .int .i64 se, .int .i64 xi, .int .i64 ep, .int .i64 pr, .slice aV V.length cV, .slice aM M.length cM, .slice aA A.length cA, .bool hd, .slice aH H.length cH] 30) := ⟨_, rfl⟩
  have BW : Below w.heap.size w W1 := by subst hW1; exact below_alloc1 _ _
  have k0 : W1.heap[w.heap.size]? = some (.cells #[.int .i64 kd, .int .i64 se, .int .i64 xi, .int .i64 ep, .int .i64 pr, .slice aV V.length cV, .slice aM M.length cM, .slice aA A.length cA, .bool hd, .slice aH H.length cH] 30 (0, 0)) := by subst hW1; exact at_new rfl
  have kl := blk_lt k0
  obtain ⟨W2, hW2⟩ : ∃ W2, W2 = W1.alloc (.cells #[] 5) := ⟨_, rfl⟩
  have B2 : Below W1.heap.size W1 W2 := by subst hW2; exact below_alloc1 _ _
  have own : HasI W2 W1.heap.size (.slice (some ⟨W1.heap.size, 0, none⟩) 0 0) [] := by subst hW2; exact own_empty W1
  have z1 : W1.heap.size = w.heap.size + 1 := by subst hW1; simp
  have K0 : Hid (W1.heap[w.heap.size]? = some (.cells #[.int .i64 kd, .int .i64 se, .int .i64 xi, .int .i64 ep, .int .i64 pr, .slice aV V.length cV, .slice aM M.length cM, .slice aA A.length cA, .bool hd, .slice aH H.length cH] 30 (0, 0))) := k0
  have KL : Hid (w.heap.size < W1.heap.size) := kl
  have HW2 : Hid (W2 = (w.alloc (.cells #[.int .i64 kd, .int .i64 se, .int .i64 xi, .int .i64 ep, .int .i64 pr, .slice aV V.length cV, .slice aM M.length cM, .slice aA A.length cA, .bool hd, .slice aH H.length cH] 30)).alloc (.cells #[] 5)) := (by rw [hW2, hW1] : W2 = (w.alloc (.cells #[.int .i64 kd, .int .i64 se, .int .i64 xi, .int .i64 ep, .int .i64 pr, .slice aV V.length cV, .slice aM M.length cM, .slice aA A.length cA, .bool hd, .slice aH H.length cH] 30)).alloc (.cells #[] 5))
  have HBW : Hid (Below w.heap.size w W1) := BW
  have HZ1 : Hid (W1.heap.size = w.heap.size + 1) := z1
  have HZ2 : Hid (w.heap.size ≤ W2.heap.size) := (by have := B2.size; omega : w.heap.size ≤ W2.heap.size)
  have HZ3 : Hid (W2.heap.size = w.heap.size + 1 + 1) := (by rw [hW2, hW1]; simp : W2.heap.size = w.heap.size + 1 + 1)
  clear hW1 hW2 BW kl
  replace k0 := (B2.block _ KL.out).trans k0
  obtain ⟨k2, k3, k5⟩ := hk
  have n2 : (kd == 2) = false := by simp [k2]
  have n3 : (kd == 3) = false := by simp [k3]
  have n5 : (kd == 5) = false := by simp [k5]
  rw [z1] at own
  clear z1
  obtain ⟨p0, p1, p2, p3, p4, p5, p6, p7, p8, p9⟩ := ten k0
  go_enter Try.func72, Try.ntmps72
  go_wp2
  go_ret
  rw [← HW2.out]
  exact ⟨_, rfl, hasI_mono own (by omega), Rw.next HBW.out B2⟩

set_option maxHeartbeats 16000000 in
theorem bodyS2 (m : Msg) (w : World) (h : m.Ok w) (hk : m.kd = 2) (f1 : numOkB m.e.ep 4 = true) (f2 : numOkB m.e.pr 2 = true) (hm : Po.matchB m.e.V m.e.M = true) (ha : Yd.actsB m.e.A = true) : Calls Try.prog 72 #[.agg m.vals] w (ResO w (addL m.e.ep m.e.pr m.e.V m.e.M m.e.A)) := by
  obtain ⟨kd, se, xi, ⟨ep, pr, V, M, A, hh, aV, bV, oV, cV, aM, bM, oM, cM, aA, bA, oA, cA⟩, hd, H, aH, bH, oH, cH⟩ := m
  obtain ⟨⟨rV, rM, rA, wV, wM⟩, hz, rH, wH⟩ := h
  simp only at rV rM rA wV wM hz rH wH hk
  subst hz
  simp only [Msg.vals, Msg.said, Ent.said] at ⊢
  obtain ⟨W1, hW1⟩ : ∃ W1, W1 = w.alloc (.cells #[.int .i64 kd, .int .i64 se, .int .i64 xi, .int .i64 ep, .int .i64 pr, .slice aV V.length cV, .slice aM M.length cM, .slice aA A.length cA, .bool hd, .slice aH H.length cH] 30) := ⟨_, rfl⟩
  have BW : Below w.heap.size w W1 := by subst hW1; exact below_alloc1 _ _
  have k0 : W1.heap[w.heap.size]? = some (.cells #[.int .i64 kd, .int .i64 se, .int .i64 xi, .int .i64 ep, .int .i64 pr, .slice aV V.length cV, .slice aM M.length cM, .slice aA A.length cA, .bool hd, .slice aH H.length cH] 30 (0, 0)) := by subst hW1; exact at_new rfl
  have kl := blk_lt k0
  obtain ⟨W2, hW2⟩ : ∃ W2, W2 = W1.alloc (.cells #[] 5) := ⟨_, rfl⟩
  have B2 : Below W1.heap.size W1 W2 := by subst hW2; exact below_alloc1 _ _
  have own : HasI W2 W1.heap.size (.slice (some ⟨W1.heap.size, 0, none⟩) 0 0) [] := by subst hW2; exact own_empty W1
  have z1 : W1.heap.size = w.heap.size + 1 := by subst hW1; simp
  have K0 : Hid (W1.heap[w.heap.size]? = some (.cells #[.int .i64 kd, .int .i64 se, .int .i64 xi, .int .i64 ep, .int .i64 pr, .slice aV V.length cV, .slice aM M.length cM, .slice aA A.length cA, .bool hd, .slice aH H.length cH] 30 (0, 0))) := k0
  have KL : Hid (w.heap.size < W1.heap.size) := kl
  have HW2 : Hid (W2 = (w.alloc (.cells #[.int .i64 kd, .int .i64 se, .int .i64 xi, .int .i64 ep, .int .i64 pr, .slice aV V.length cV, .slice aM M.length cM, .slice aA A.length cA, .bool hd, .slice aH H.length cH] 30)).alloc (.cells #[] 5)) := (by rw [hW2, hW1] : W2 = (w.alloc (.cells #[.int .i64 kd, .int .i64 se, .int .i64 xi, .int .i64 ep, .int .i64 pr, .slice aV V.length cV, .slice aM M.length cM, .slice aA A.length cA, .bool hd, .slice aH H.length cH] 30)).alloc (.cells #[] 5))
  have HBW : Hid (Below w.heap.size w W1) := BW
  have HZ1 : Hid (W1.heap.size = w.heap.size + 1) := z1
  have HZ2 : Hid (w.heap.size ≤ W2.heap.size) := (by have := B2.size; omega : w.heap.size ≤ W2.heap.size)
  have HZ3 : Hid (W2.heap.size = w.heap.size + 1 + 1) := (by rw [hW2, hW1]; simp : W2.heap.size = w.heap.size + 1 + 1)
  clear hW1 hW2 BW kl
  replace k0 := (B2.block _ KL.out).trans k0
  simp only at f1 f2 hm ha
  obtain ⟨lV, lM, fm⟩ := match_fit hm
  obtain ⟨lA, fa⟩ := acts_fit ha
  have fA : numOkB (A.length : Int) 1 = true := fit1 (by omega) (by omega)
  have hV0 := rV.head (by omega)
  have hM0 := rM.head (by omega)
  have hA0 := rA.head
  have RV : Hid (Hr.Rd W1 aV bV oV V) := rV.below HBW.out
  have RM : Hid (Hr.Rd W1 aM bM oM M) := rM.below HBW.out
  have RA : Hid (Yb.Rd W1 aA bA oA A) := rA.below HBW.out
  clear rV rM rA rH
  subst hV0 hM0 hk
  obtain ⟨mV, hmV⟩ : ∃ mV, mV = V.length := ⟨_, rfl⟩
  obtain ⟨mM, hmM⟩ : ∃ mM, mM = M.length := ⟨_, rfl⟩
  have HV8 : Hid (V.length = 8) := lV
  have HM8 : Hid (M.length = 8) := lM
  have HA12 : Hid (A.length ≤ 12) := lA
  rw [← hmV, ← hmM] at k0 K0 HW2 ⊢
  rw [← hmV] at lV
  rw [← hmM] at lM
  clear hmV hmM
  subst lV lM
  rw [z1] at own
  clear z1
  replace own := hasI_mono own (Nat.le_of_eq HZ1.out)
  have t1 : True := trivial
  obtain ⟨p0, p1, p2, p3, p4, p5, p6, p7, p8, p9⟩ := ten k0
  go_enter Try.func72, Try.ntmps72
  go_wp2_with (first
    | (go_at_call 73; clear t1; rw [← HW2.out]; refine (put4 _ _ _ _ _ own (by first | exact Nat.zero_le _ | (simp only [List.length_append, List.length_nil, List.length_cons, dg_len, pairsL_len, actsL_len, headL_len]; omega)) (by repeat (first | exact dg_byt _ _ | exact pairsL_byt _ _ _ | exact actsL_byt _ _ | exact headL_byt _ _ | exact byt_nil | refine byt_app ?_ ?_)) f1).mono ?_; rintro x w1 ⟨v1, rfl, own1, b1⟩; replace own := hasI_mono own1 B2.size; clear own1; replace k0 := (b1.block _ (blk_lt k0)).trans k0; replace B2 := Rw.next B2 b1; clear b1; clear p0 p1 p2 p3 p4 p5 p6 p7 p8 p9; obtain ⟨p0, p1, p2, p3, p4, p5, p6, p7, p8, p9⟩ := ten k0; have t2 : True := trivial)
    | (go_at_call 73; clear t2; refine (put2 _ _ _ _ _ own (by first | exact Nat.zero_le _ | (simp only [List.length_append, List.length_nil, List.length_cons, dg_len, pairsL_len, actsL_len, headL_len]; omega)) (by repeat (first | exact dg_byt _ _ | exact pairsL_byt _ _ _ | exact actsL_byt _ _ | exact headL_byt _ _ | exact byt_nil | refine byt_app ?_ ?_)) f2).mono ?_; rintro x w2 ⟨v2, rfl, own1, b1⟩; replace own := hasI_mono own1 B2.size; clear own1; replace k0 := (b1.block _ (blk_lt k0)).trans k0; replace B2 := Rw.next B2 b1; clear b1; clear p0 p1 p2 p3 p4 p5 p6 p7 p8 p9; obtain ⟨p0, p1, p2, p3, p4, p5, p6, p7, p8, p9⟩ := ten k0))
  have OWN : Hid (HasI w2 W1.heap.size v2 ([] ++ dg ep 4 ++ dg pr 2)) := own
  have HB2 : Hid (Below W1.heap.size W1 w2) := B2
  clear own B2 k0 p0 p1 p2 p3 p4 p5 p6 p7 p8 p9
  go_loopw [3, 4] (fun v i wr => ∃ j : Nat, j ≤ 8 ∧ i = .int .i64 j ∧ HasI wr W1.heap.size v ([] ++ dg ep 4 ++ dg pr 2 ++ pairsL V M j) ∧ Below W1.heap.size W1 wr) (fun _ i _ => 8 - (intOf i).toNat)
  case atStart => exact ⟨0, by omega, rfl, by simpa [pairsL] using OWN.out, HB2.out⟩
  case round =>
    obtain ⟨j, hj, rfl, own, B2⟩ := hrel
    have k0 := (B2.block _ KL.out).trans K0.out
    obtain ⟨p0, p1, p2, p3, p4, p5, p6, p7, p8, p9⟩ := ten k0
    by_cases hlt : j < 8
    · have hjz : (j : Int) < 8 := by omega
      have hcV := (RV.out.below B2).cell j (by have := HV8.out; omega)
      have fV := (fm j hlt).1
      have fM := (fm j hlt).2
      have t3 : True := trivial
      go_wp2_with (first
        | (go_at_call 73; clear t3; refine (put6 _ _ _ _ _ own (by first | exact Nat.zero_le _ | (simp only [List.length_append, List.length_nil, List.length_cons, dg_len, pairsL_len, actsL_len, headL_len]; omega)) (by repeat (first | exact dg_byt _ _ | exact pairsL_byt _ _ _ | exact actsL_byt _ _ | exact headL_byt _ _ | exact byt_nil | refine byt_app ?_ ?_)) fV).mono ?_; rintro x w3 ⟨v3, rfl, own1, b1⟩; replace own := hasI_mono own1 B2.size; clear own1; replace k0 := (b1.block _ (blk_lt k0)).trans k0; replace B2 := Rw.next B2 b1; clear b1; clear p0 p1 p2 p3 p4 p5 p6 p7 p8 p9; obtain ⟨p0, p1, p2, p3, p4, p5, p6, p7, p8, p9⟩ := ten k0; have hcM := (RM.out.below B2).cell j (by have := HM8.out; omega); have t4 : True := trivial)
        | (go_at_call 73; clear t4; refine (put6 _ _ _ _ _ own (by first | exact Nat.zero_le _ | (simp only [List.length_append, List.length_nil, List.length_cons, dg_len, pairsL_len, actsL_len, headL_len]; omega)) (by repeat (first | exact dg_byt _ _ | exact pairsL_byt _ _ _ | exact actsL_byt _ _ | exact headL_byt _ _ | exact byt_nil | refine byt_app ?_ ?_)) fM).mono ?_; rintro x w4 ⟨v4, rfl, own1, b1⟩; replace own := hasI_mono own1 B2.size; clear own1; replace k0 := (b1.block _ (blk_lt k0)).trans k0; replace B2 := Rw.next B2 b1; clear b1; clear p0 p1 p2 p3 p4 p5 p6 p7 p8 p9; obtain ⟨p0, p1, p2, p3, p4, p5, p6, p7, p8, p9⟩ := ten k0))
      rw [pairsL_step] at own
      go_roundw
      case rel => exact ⟨j + 1, by omega, by go_num, own, B2⟩
      case measure => simp [intOf]; omega
    · have he : j = 8 := by omega
      subst he
      have t5 : True := trivial
      go_wp2_with (first
        | (go_at_call 73; clear t5; refine (put1 _ _ _ _ _ own (by first | exact Nat.zero_le _ | (simp only [List.length_append, List.length_nil, List.length_cons, dg_len, pairsL_len, actsL_len, headL_len]; omega)) (by repeat (first | exact dg_byt _ _ | exact pairsL_byt _ _ _ | exact actsL_byt _ _ | exact headL_byt _ _ | exact byt_nil | refine byt_app ?_ ?_)) fA).mono ?_; rintro x w5 ⟨v5, rfl, own1, b1⟩; replace own := hasI_mono own1 B2.size; clear own1; replace k0 := (b1.block _ (blk_lt k0)).trans k0; replace B2 := Rw.next B2 b1; clear b1; clear p0 p1 p2 p3 p4 p5 p6 p7 p8 p9; obtain ⟨p0, p1, p2, p3, p4, p5, p6, p7, p8, p9⟩ := ten k0))
      have OWN5 : Hid (HasI w5 W1.heap.size v5 ([] ++ dg ep 4 ++ dg pr 2 ++ pairsL V M 8 ++ dg (A.length : Int) 1)) := own
      have HB5 : Hid (Below W1.heap.size W1 w5) := B2
      clear own B2 k0 p0 p1 p2 p3 p4 p5 p6 p7 p8 p9 OWN HB2
      go_loopw [3, 71] (fun v i wr => ∃ j : Nat, j ≤ A.length ∧ i = .int .i64 j ∧ HasI wr W1.heap.size v ([] ++ dg ep 4 ++ dg pr 2 ++ pairsL V M 8 ++ dg (A.length : Int) 1 ++ actsL A j) ∧ Below W1.heap.size W1 wr) (fun _ i _ => A.length - (intOf i).toNat)
      case atStart => exact ⟨0, by omega, rfl, by simpa [actsL] using OWN5.out, HB5.out⟩
      case round =>
        obtain ⟨j, hj, rfl, own, B2⟩ := hrel
        have k0 := (B2.block _ KL.out).trans K0.out
        obtain ⟨p0, p1, p2, p3, p4, p5, p6, p7, p8, p9⟩ := ten k0
        by_cases hlt : j < A.length
        · have hjz : (j : Int) < (A.length : Int) := by omega
          obtain rfl := hA0 (by omega)
          have hc3 := (RA.out.below B2).cell j hlt
          have faj := fa j hlt
          obtain ⟨q0, q1, q2⟩ := hc3
          have HST : Hid (∀ x, x ++ actsL A j ++ dg (A.getD j Yb.z3).1 1 ++ dg (A.getD j Yb.z3).2.1 1 ++ dg (A.getD j Yb.z3).2.2 6 = x ++ actsL A (j + 1)) := fun x => actsL_step x A j
          generalize A.getD j Yb.z3 = z at *
          obtain ⟨x1, x2, x3⟩ := z
          simp only at q0 q1 q2 faj
          obtain ⟨fa1, fa2, fa3⟩ := faj
          have HST2 : Hid (∀ x, x ++ actsL A j ++ dg x1 1 ++ dg x2 1 ++ dg x3 6 = x ++ actsL A (j + 1)) := HST.out
          obtain ⟨W6, hW6⟩ : ∃ W6, W6 = wr.alloc (.cells #[.int .i64 x1, .int .i64 x2, .int .i64 x3] 133) := ⟨_, rfl⟩
          have b6 : Below wr.heap.size wr W6 := by subst hW6; exact below_alloc1 _ _
          have k6 : W6.heap[wr.heap.size]? = some (.cells #[.int .i64 x1, .int .i64 x2, .int .i64 x3] 133 (0, 0)) := by subst hW6; exact at_new rfl
          replace own := hasI_below own b6
          replace k0 := (b6.block _ (blk_lt k0)).trans k0
          replace B2 := Rw.next B2 b6
          clear HST b6
          obtain ⟨d0, d1, d2⟩ := three k6
          have t6 : True := trivial
          go_wp2_with (first
            | (go_at_call 73; clear t6; rw [← hW6]; clear hW6; refine (put1 _ _ _ _ _ own (by have := HA12.out; simp only [List.length_append, List.length_nil, dg_len, pairsL_len, actsL_len, headL_len]; omega) (by repeat (first | exact dg_byt _ _ | exact pairsL_byt _ _ _ | exact actsL_byt _ _ | exact headL_byt _ _ | exact byt_nil | refine byt_app ?_ ?_)) fa1).mono ?_; rintro x w7 ⟨v7, rfl, own1, b1⟩; replace own := hasI_mono own1 B2.size; clear own1 d0 d1 d2; replace k0 := (b1.block _ (blk_lt k0)).trans k0; have k7 := (b1.block _ (blk_lt k6)).trans k6; replace B2 := Rw.next B2 b1; clear b1; clear p0 p1 p2 p3 p4 p5 p6 p7 p8 p9; obtain ⟨p0, p1, p2, p3, p4, p5, p6, p7, p8, p9⟩ := ten k0; obtain ⟨d0, d1, d2⟩ := three k7; have t7 : True := trivial)
            | (go_at_call 73; clear t7; refine (put1 _ _ _ _ _ own (by have := HA12.out; simp only [List.length_append, List.length_nil, dg_len, pairsL_len, actsL_len, headL_len]; omega) (by repeat (first | exact dg_byt _ _ | exact pairsL_byt _ _ _ | exact actsL_byt _ _ | exact headL_byt _ _ | exact byt_nil | refine byt_app ?_ ?_)) fa2).mono ?_; rintro x w8 ⟨v8, rfl, own1, b1⟩; replace own := hasI_mono own1 B2.size; clear own1 d0 d1 d2; replace k0 := (b1.block _ (blk_lt k0)).trans k0; have k8 := (b1.block _ (blk_lt k7)).trans k7; replace B2 := Rw.next B2 b1; clear b1; clear p0 p1 p2 p3 p4 p5 p6 p7 p8 p9; obtain ⟨p0, p1, p2, p3, p4, p5, p6, p7, p8, p9⟩ := ten k0; obtain ⟨d0, d1, d2⟩ := three k8; have t8 : True := trivial)
            | (go_at_call 73; clear t8; refine (put6 _ _ _ _ _ own (by have := HA12.out; simp only [List.length_append, List.length_nil, dg_len, pairsL_len, actsL_len, headL_len]; omega) (by repeat (first | exact dg_byt _ _ | exact pairsL_byt _ _ _ | exact actsL_byt _ _ | exact headL_byt _ _ | exact byt_nil | refine byt_app ?_ ?_)) fa3).mono ?_; rintro x w9 ⟨v9, rfl, own1, b1⟩; replace own := hasI_mono own1 B2.size; clear own1; replace B2 := Rw.next B2 b1; clear b1; rw [HST2.out] at own))
          go_roundw
          case rel => exact ⟨j + 1, by omega, by go_num, own, B2⟩
          case measure => simp [intOf]; omega
        · have he : j = A.length := by omega
          subst he
          go_wp2
          go_ret
          exact ⟨_, rfl, hasI_mono (by simpa [addL] using own) (by have := HZ1.out; omega), Rw.next HBW.out B2⟩

set_option maxHeartbeats 16000000 in
theorem bodyS5 (m : Msg) (w : World) (h : m.Ok w) (hk : m.kd = 5) (hh : Hg.headB m.H = true) : Calls Try.prog 72 #[.agg m.vals] w (ResO w (noteL m.hd m.H)) := by
  obtain ⟨kd, se, xi, ⟨ep, pr, V, M, A, hh, aV, bV, oV, cV, aM, bM, oM, cM, aA, bA, oA, cA⟩, hd, H, aH, bH, oH, cH⟩ := m
  obtain ⟨⟨rV, rM, rA, wV, wM⟩, hz, rH, wH⟩ := h
  simp only at rV rM rA wV wM hz rH wH hk
  subst hz
  simp only [Msg.vals, Msg.said, Ent.said] at ⊢
  obtain ⟨W1, hW1⟩ : ∃ W1, W1 = w.alloc (.cells #[.int .i64 kd, .int .i64 se, .int .i64 xi, .int .i64 ep, .int .i64 pr, .slice aV V.length cV, .slice aM M.length cM, .slice aA A.length cA, .bool hd, .slice aH H.length cH] 30) := ⟨_, rfl⟩
  have BW : Below w.heap.size w W1 := by subst hW1; exact below_alloc1 _ _
  have k0 : W1.heap[w.heap.size]? = some (.cells #[.int .i64 kd, .int .i64 se, .int .i64 xi, .int .i64 ep, .int .i64 pr, .slice aV V.length cV, .slice aM M.length cM, .slice aA A.length cA, .bool hd, .slice aH H.length cH] 30 (0, 0)) := by subst hW1; exact at_new rfl
  have kl := blk_lt k0
  obtain ⟨W2, hW2⟩ : ∃ W2, W2 = W1.alloc (.cells #[] 5) := ⟨_, rfl⟩
  have B2 : Below W1.heap.size W1 W2 := by subst hW2; exact below_alloc1 _ _
  have own : HasI W2 W1.heap.size (.slice (some ⟨W1.heap.size, 0, none⟩) 0 0) [] := by subst hW2; exact own_empty W1
  have z1 : W1.heap.size = w.heap.size + 1 := by subst hW1; simp
  have K0 : Hid (W1.heap[w.heap.size]? = some (.cells #[.int .i64 kd, .int .i64 se, .int .i64 xi, .int .i64 ep, .int .i64 pr, .slice aV V.length cV, .slice aM M.length cM, .slice aA A.length cA, .bool hd, .slice aH H.length cH] 30 (0, 0))) := k0
  have KL : Hid (w.heap.size < W1.heap.size) := kl
  have HW2 : Hid (W2 = (w.alloc (.cells #[.int .i64 kd, .int .i64 se, .int .i64 xi, .int .i64 ep, .int .i64 pr, .slice aV V.length cV, .slice aM M.length cM, .slice aA A.length cA, .bool hd, .slice aH H.length cH] 30)).alloc (.cells #[] 5)) := (by rw [hW2, hW1] : W2 = (w.alloc (.cells #[.int .i64 kd, .int .i64 se, .int .i64 xi, .int .i64 ep, .int .i64 pr, .slice aV V.length cV, .slice aM M.length cM, .slice aA A.length cA, .bool hd, .slice aH H.length cH] 30)).alloc (.cells #[] 5))
  have HBW : Hid (Below w.heap.size w W1) := BW
  have HZ1 : Hid (W1.heap.size = w.heap.size + 1) := z1
  have HZ2 : Hid (w.heap.size ≤ W2.heap.size) := (by have := B2.size; omega : w.heap.size ≤ W2.heap.size)
  have HZ3 : Hid (W2.heap.size = w.heap.size + 1 + 1) := (by rw [hW2, hW1]; simp : W2.heap.size = w.heap.size + 1 + 1)
  clear hW1 hW2 BW kl
  replace k0 := (B2.block _ KL.out).trans k0
  simp only at hh
  obtain ⟨lH, fh⟩ := head_fit hh
  have hH0 := rH.head (by omega)
  have RH : Hid (Hr.Rd W1 aH bH oH H) := rH.below HBW.out
  clear rV rM rA rH
  subst hH0 hk
  obtain ⟨mH, hmH⟩ : ∃ mH, mH = H.length := ⟨_, rfl⟩
  have HH8 : Hid (H.length = 8) := lH
  rw [← hmH] at k0 K0 HW2 ⊢
  rw [← hmH] at lH
  clear hmH
  subst lH
  rw [z1] at own
  clear z1
  replace own := hasI_mono own (Nat.le_of_eq HZ1.out)
  obtain ⟨p0, p1, p2, p3, p4, p5, p6, p7, p8, p9⟩ := ten k0
  have OB : ∀ x : Int, Below W2.heap.size W2 (W2.alloc (.cells #[.int .u8 x] 5)) := fun x => below_alloc1 _ _
  have tail : ∀ (x : Int) (w3 : World) (v3 : Value), HasI w3 W1.heap.size v3 [x] → Below W1.heap.size W1 w3 → True := fun _ _ _ _ _ => trivial
  cases hd
  · go_enter Try.func72, Try.ntmps72
    go_wp2_with (at_builtin; rw [← HW2.out]; refine wpList_app rfl (.tmp 105) (.tmp 106) rfl W1.heap.size _ [] [0] rfl (hasI_below own (below_alloc1 _ _)) (some ⟨W2.heap.size, 0, none⟩) W2.heap.size 0 1 (by rw [HZ3.out]; rfl) (own_one W2 0 (by omega)) (by simp) (by have := B2.size; simp; omega) ?_; intro v3 w3 own3 gr3; have B3 := App.below_own (hasI_below own (below_alloc1 _ _)) (Rw.next B2 (below_alloc1 _ _)) (Nat.le_refl _) gr3)
    have OWN : Hid (HasI w3 W1.heap.size v3 ([] ++ [0])) := own3
    have HB3 : Hid (Below W1.heap.size W1 w3) := B3
    clear own own3 gr3 B2 B3 k0 p0 p1 p2 p3 p4 p5 p6 p7 p8 p9
    go_loopw [3, 7] (fun v i wr => ∃ j : Nat, j ≤ 8 ∧ i = .int .i64 j ∧ HasI wr W1.heap.size v ([] ++ [0] ++ headL H j) ∧ Below W1.heap.size W1 wr) (fun _ i _ => 8 - (intOf i).toNat)
    case atStart => exact ⟨0, by omega, rfl, by simpa [headL] using OWN.out, HB3.out⟩
    case round =>
      obtain ⟨j, hj, rfl, own, B2⟩ := hrel
      have k0 := (B2.block _ KL.out).trans K0.out
      obtain ⟨p0, p1, p2, p3, p4, p5, p6, p7, p8, p9⟩ := ten k0
      by_cases hlt : j < 8
      · have hjz : (j : Int) < 8 := by omega
        have hcH := (RH.out.below B2).cell j (by have := HH8.out; omega)
        have fH := fh j hlt
        have t3 : True := trivial
        go_wp2_with (first
          | (go_at_call 73; clear t3; refine (put6 _ _ _ _ _ own (by first | exact Nat.zero_le _ | (simp only [List.length_append, List.length_nil, List.length_cons, dg_len, pairsL_len, actsL_len, headL_len]; omega)) (by refine byt_app (byt_app byt_nil ?_) (headL_byt _ _); intro n hn; simp at hn; subst hn; omega) fH).mono ?_; rintro x w3 ⟨v3, rfl, own1, b1⟩; replace own := hasI_mono own1 B2.size; clear own1; replace k0 := (b1.block _ (blk_lt k0)).trans k0; replace B2 := Rw.next B2 b1; clear b1; clear p0 p1 p2 p3 p4 p5 p6 p7 p8 p9; obtain ⟨p0, p1, p2, p3, p4, p5, p6, p7, p8, p9⟩ := ten k0))
        rw [headL_step] at own
        go_roundw
        case rel => exact ⟨j + 1, by omega, by go_num, own, B2⟩
        case measure => simp [intOf]; omega
      · have he : j = 8 := by omega
        subst he
        go_wp2
        go_ret
        exact ⟨_, rfl, hasI_mono own (by have := HZ1.out; omega), Rw.next HBW.out B2⟩
  · go_enter Try.func72, Try.ntmps72
    go_wp2_with (at_builtin; rw [← HW2.out]; refine wpList_app rfl (.tmp 102) (.tmp 103) rfl W1.heap.size _ [] [1] rfl (hasI_below own (below_alloc1 _ _)) (some ⟨W2.heap.size, 0, none⟩) W2.heap.size 0 1 (by rw [HZ3.out]; rfl) (own_one W2 1 (by omega)) (by simp) (by have := B2.size; simp; omega) ?_; intro v3 w3 own3 gr3; have B3 := App.below_own (hasI_below own (below_alloc1 _ _)) (Rw.next B2 (below_alloc1 _ _)) (Nat.le_refl _) gr3)
    have OWN : Hid (HasI w3 W1.heap.size v3 ([] ++ [1])) := own3
    have HB3 : Hid (Below W1.heap.size W1 w3) := B3
    clear own own3 gr3 B2 B3 k0 p0 p1 p2 p3 p4 p5 p6 p7 p8 p9
    go_loopw [3, 7] (fun v i wr => ∃ j : Nat, j ≤ 8 ∧ i = .int .i64 j ∧ HasI wr W1.heap.size v ([] ++ [1] ++ headL H j) ∧ Below W1.heap.size W1 wr) (fun _ i _ => 8 - (intOf i).toNat)
    case atStart => exact ⟨0, by omega, rfl, by simpa [headL] using OWN.out, HB3.out⟩
    case round =>
      obtain ⟨j, hj, rfl, own, B2⟩ := hrel
      have k0 := (B2.block _ KL.out).trans K0.out
      obtain ⟨p0, p1, p2, p3, p4, p5, p6, p7, p8, p9⟩ := ten k0
      by_cases hlt : j < 8
      · have hjz : (j : Int) < 8 := by omega
        have hcH := (RH.out.below B2).cell j (by have := HH8.out; omega)
        have fH := fh j hlt
        have t3 : True := trivial
        go_wp2_with (first
          | (go_at_call 73; clear t3; refine (put6 _ _ _ _ _ own (by first | exact Nat.zero_le _ | (simp only [List.length_append, List.length_nil, List.length_cons, dg_len, pairsL_len, actsL_len, headL_len]; omega)) (by refine byt_app (byt_app byt_nil ?_) (headL_byt _ _); intro n hn; simp at hn; subst hn; omega) fH).mono ?_; rintro x w3 ⟨v3, rfl, own1, b1⟩; replace own := hasI_mono own1 B2.size; clear own1; replace k0 := (b1.block _ (blk_lt k0)).trans k0; replace B2 := Rw.next B2 b1; clear b1; clear p0 p1 p2 p3 p4 p5 p6 p7 p8 p9; obtain ⟨p0, p1, p2, p3, p4, p5, p6, p7, p8, p9⟩ := ten k0))
        rw [headL_step] at own
        go_roundw
        case rel => exact ⟨j + 1, by omega, by go_num, own, B2⟩
        case measure => simp [intOf]; omega
      · have he : j = 8 := by omega
        subst he
        go_wp2
        go_ret
        exact ⟨_, rfl, hasI_mono own (by have := HZ1.out; omega), Rw.next HBW.out B2⟩


end Go.Proofs.Ytcbhpmgjmpbpmaa.Ja
namespace Go.Proofs.Ytcbhpmgjmpbpmaa.Ja
open Go Go.RowKit
set_option maxRecDepth 8000
set_option linter.unusedSimpArgs false
set_option linter.unusedVariables false
open Num Pl Rw Mk Un Put App Ea Ga

theorem bodyS (m : Msg) (w : World) (h : m.Ok w) (hb : msgB m.said = true) : Calls Try.prog 72 #[.agg m.vals] w (ResO w (bodyL m.said)) := by
  have ft := fit_of hb
  by_cases k2 : m.kd = 2
  · have e : bodyL m.said = addL m.e.ep m.e.pr m.e.V m.e.M m.e.A := by
      show (if m.kd = 2 then _ else _) = _
      exact if_pos k2
    rw [e]
    obtain ⟨f1, f2, f3, f4⟩ := ft.add k2
    exact bodyS2 m w h k2 f1 f2 f3 f4
  by_cases k3 : m.kd = 3
  · have e : bodyL m.said = dg m.e.ep 4 := by
      show (if m.kd = 2 then _ else if m.kd = 3 then _ else _) = _
      rw [if_neg k2, if_pos k3]
      rfl
    rw [e]
    exact bodyS3 m w h k3 (ft.flip k3)
  by_cases k5 : m.kd = 5
  · have e : bodyL m.said = noteL m.hd m.H := by
      show (if m.kd = 2 then _ else if m.kd = 3 then _ else if m.kd = 5 then _ else _) = _
      rw [if_neg k2, if_neg k3, if_pos k5]
      rfl
    rw [e]
    exact bodyS5 m w h k5 (ft.note k5)
  · have e : bodyL m.said = [] := by
      show (if m.kd = 2 then _ else if m.kd = 3 then _ else if m.kd = 5 then _ else _) = _
      rw [if_neg k2, if_neg k3, if_neg k5]
    rw [e]
    exact bodyS0 m w h ⟨k2, k3, k5⟩
theorem dg_one {n : Int} (h0 : 0 ≤ n) (h : n ≤ 255) : dg n 1 = [n] := by
  simp [dg, digs, dig, pw, List.range_succ]
  omega

set_option maxHeartbeats 4000000 in
theorem bytesS_no (m : Msg) (w : World) (h : m.Ok w) (hb : msgB m.said = false) : Calls Try.prog 17 #[.agg m.vals] w (ResW w (msgB m.said) (writtenL m.said)) := by
  have e : writtenL m.said = [] := by unfold writtenL; rw [hb]; rfl
  rw [e, hb]
  obtain ⟨W1, hW1⟩ : ∃ W1, W1 = w.alloc (.cells m.vals 30) := ⟨_, rfl⟩
  have B1 : Below w.heap.size w W1 := by subst hW1; exact below_alloc1 _ _
  have hc := okM_spec m W1 (h.below B1)
  rw [hb] at hc
  simp only [msg_vals] at hW1 hc ⊢
  go_enter Try.func17, Try.ntmps17
  go_wp2_with (go_at_call 15; rw [← hW1]; clear hW1; refine hc.mono ?_; rintro x wa ⟨rfl, ba⟩)
  refine bodyPost_ret (v := .tuple #[.slice none 0 0, .bool false]) (by simp [results, Try.results17, go_sem]) rfl ?_
  exact resW_no (Rw.next B1 ba)

set_option maxHeartbeats 16000000 in
theorem bytesS_yes (m : Msg) (w : World) (h : m.Ok w) (hb : msgB m.said = true) : Calls Try.prog 17 #[.agg m.vals] w (ResW w true (msgL m.said)) := by
  have ft := fit_of hb
  have hI := okM_spec
  have hB := bodyS
  simp only [msg_vals] at hI hB
  have hIm := fun W o => hI m W o
  have hBm := fun W o => hB m W o hb
  rw [hb] at hIm
  have okm := h
  have hlen := bodyL_len ft
  have hyL := bodyL_byt m.said
  have hML : msgL m.said = frontL m.said ++ bodyL m.said := rfl
  have h1 := ft.kd
  have h3 := ft.se
  have h4 := ft.xi
  have hF : frontL m.said = [1, m.kd] ++ dg (12 + ((bodyL m.said).length : Int)) 2 ++ dg m.se 4 ++ dg m.xi 4 := by
    unfold frontL
    rw [dg_one (n := 1) (by omega) (by omega), dg_one (n := m.said.1) (by omega) (by omega)]
    rfl
  rw [hML, hF]
  clear hML hF ft hI hB
  generalize bodyL m.said = L at *
  obtain ⟨kd, se, xi, ⟨ep, pr, V, M, A, hh, aV, bV, oV, cV, aM, bM, oM, cM, aA, bA, oA, cA⟩, hd, H, aH, bH, oH, cH⟩ := m
  simp only [Msg.said, Ent.said] at h1 h3 h4 hIm hBm ⊢
  have HYL : Hid (Byt L) := hyL
  have HLL : Hid (L.length ≤ 199) := hlen
  have z12 : (L.length : Int) ≤ 199 := by omega
  obtain ⟨k1a, k1b⟩ := h1
  have fN : numOkB (12 + (L.length : Int)) 2 = true := fit2 (by omega) (by omega)
  clear hyL hlen h
  obtain ⟨W1, hW1⟩ : ∃ W1, W1 = w.alloc (.cells #[.int .i64 kd, .int .i64 se, .int .i64 xi, .int .i64 ep, .int .i64 pr, .slice aV V.length cV, .slice aM M.length cM, .slice aA A.length cA, .bool hd, .slice aH H.length cH] 30) := ⟨_, rfl⟩
  have BW : Below w.heap.size w W1 := by subst hW1; exact below_alloc1 _ _
  have k0 : W1.heap[w.heap.size]? = some (.cells #[.int .i64 kd, .int .i64 se, .int .i64 xi, .int .i64 ep, .int .i64 pr, .slice aV V.length cV, .slice aM M.length cM, .slice aA A.length cA, .bool hd, .slice aH H.length cH] 30 (0, 0)) := by subst hW1; exact at_new rfl
  have hI1 := hIm W1 (okm.below BW)
  simp only [Msg.vals]
  have t1 : True := trivial
  go_enter Try.func17, Try.ntmps17
  go_wp2_with (first
    | (go_at_call 15; rw [← hW1]; clear hW1; refine hI1.mono ?_; rintro x wa ⟨rfl, ba⟩; replace k0 := (ba.block _ (blk_lt k0)).trans k0; replace BW := Rw.next BW ba; clear ba hI1 hIm; obtain ⟨p0, p1, p2, p3, p4, p5, p6, p7, p8, p9⟩ := ten k0)
    | (go_at_call 72; refine (hBm _ (okm.below BW)).mono ?_; rintro x wb ⟨vb, rfl, own1, bb⟩; obtain ⟨gb, cb, rfl, hgb, wtb⟩ := hasI_form own1 (by have := HLL.out; omega) HYL.out; replace k0 := (bb.block _ (blk_lt k0)).trans k0; have szb := BW.size; replace BW := Rw.next BW bb; clear bb hBm; clear p0 p1 p2 p3 p4 p5 p6 p7 p8 p9; obtain ⟨p0, p1, p2, p3, p4, p5, p6, p7, p8, p9⟩ := ten k0))
  obtain ⟨W3, hW3⟩ : ∃ W3, W3 = wb.alloc (.cells #[.int .u8 1, .int .u8 kd] 5) := ⟨_, rfl⟩
  have b3 : Below wb.heap.size wb W3 := by subst hW3; exact below_alloc1 _ _
  have own : HasI W3 wb.heap.size (.slice (some ⟨wb.heap.size, 0, none⟩) 2 2) [1, kd] := by subst hW3; exact Hp.own_made wb [1, kd] 2 #[.int .u8 1, .int .u8 kd] rfl rfl (by decide)
  have rdb := wtb.rd.below b3
  replace k0 := (b3.block _ (blk_lt k0)).trans k0
  have szw : w.heap.size ≤ wb.heap.size := BW.size
  replace BW := Rw.next BW b3
  have by1 : Byt [1, kd] := fun n hn => by simp at hn; omega
  have HBY1 : Hid (Byt [1, kd]) := by1
  have HSZ : Hid (w.heap.size ≤ wb.heap.size) := szw
  have szW3 := b3.size
  clear b3 by1 szw szb hgb wtb own1 p0 p1 p2 p3 p4 p5 p6 p7 p8 p9
  obtain ⟨p0, p1, p2, p3, p4, p5, p6, p7, p8, p9⟩ := ten k0
  have t2 : True := trivial
  go_wp2_with (first
    | (go_at_call 73; clear t2; rw [← hW3]; clear hW3; refine (put2 _ _ _ _ _ own (by simp) HBY1.out fN).mono ?_; rintro x w4 ⟨v4, rfl, own1, b1⟩; replace own := hasI_mono own1 szW3; clear own1; replace szW3 := Nat.le_trans szW3 b1.size; replace k0 := (b1.block _ (blk_lt k0)).trans k0; replace rdb := rdb.below b1; replace BW := Rw.next BW b1; clear b1; clear p0 p1 p2 p3 p4 p5 p6 p7 p8 p9; obtain ⟨p0, p1, p2, p3, p4, p5, p6, p7, p8, p9⟩ := ten k0; have t3 : True := trivial)
    | (go_at_call 73; clear t3; refine (put4 _ _ _ _ _ own (by simp only [List.length_append, List.length_cons, List.length_nil, dg_len]; omega) (byt_app HBY1.out (dg_byt _ _)) h3).mono ?_; rintro x w5 ⟨v5, rfl, own1, b1⟩; replace own := hasI_mono own1 szW3; clear own1; replace szW3 := Nat.le_trans szW3 b1.size; replace k0 := (b1.block _ (blk_lt k0)).trans k0; replace rdb := rdb.below b1; replace BW := Rw.next BW b1; clear b1; clear p0 p1 p2 p3 p4 p5 p6 p7 p8 p9; obtain ⟨p0, p1, p2, p3, p4, p5, p6, p7, p8, p9⟩ := ten k0; have t4 : True := trivial)
    | (go_at_call 73; clear t4; refine (put4 _ _ _ _ _ own (by simp only [List.length_append, List.length_cons, List.length_nil, dg_len]; omega) (byt_app (byt_app HBY1.out (dg_byt _ _)) (dg_byt _ _)) h4).mono ?_; rintro x w6 ⟨v6, rfl, own1, b1⟩; replace own := hasI_mono own1 szW3; clear own1; replace szW3 := Nat.le_trans szW3 b1.size; replace rdb := rdb.below b1; replace BW := Rw.next BW b1; clear b1)
    | (at_builtin; refine wpList_app rfl (.tmp 37) (.tmp 38) rfl wb.heap.size _ _ L rfl own (some ⟨gb, 0, none⟩) gb 0 cb rfl rdb (by simp only [List.length_append, List.length_cons, List.length_nil, dg_len]; omega) szW3 ?_; intro v7 w7 own7 gr7; replace BW := App.below_own own BW HSZ.out gr7))
  refine bodyPost_ret (v := .tuple #[v7, .bool true]) (by simp [results, Try.results17, go_sem]) rfl ?_
  exact hasI_ok (w0 := w) own7 (by have := HLL.out; simp only [List.length_append, List.length_cons, List.length_nil, dg_len]; omega) (byt_app (byt_app (byt_app (byt_app HBY1.out (dg_byt _ _)) (dg_byt _ _)) (dg_byt _ _)) HYL.out) HSZ.out BW

theorem bytesSp (m : Msg) (w : World) (h : m.Ok w) : Calls Try.prog 17 #[.agg m.vals] w (ResW w (msgB m.said) (writtenL m.said)) := by
  by_cases hb : msgB m.said = true
  · have e : writtenL m.said = msgL m.said := by unfold writtenL; rw [if_pos hb]
    rw [e, hb]
    exact bytesS_yes m w h hb
  · exact bytesS_no m w h (by simpa using hb)
theorem writtenL_len (x : Said) : (writtenL x).length ≤ 211 := by
  unfold writtenL
  split
  · rename_i hb
    have := bodyL_len (fit_of hb)
    unfold msgL
    rw [List.length_append, frontL_len]; omega
  · simp
theorem writtenL_byt (x : Said) : Byt (writtenL x) := by
  unfold writtenL
  split
  · exact msgL_byt x
  · exact byt_nil


end Go.Proofs.Ytcbhpmgjmpbpmaa.Ja
namespace Go.Proofs.Ytcbhpmgjmpbpmaa.Lk
open Go Go.RowKit
set_option maxRecDepth 8000
open Num Pl Hr Mf

theorem below_kept {B g n : Nat} {w0 w w' : World} (hb : Below B w0 w) (hB : B ≤ w.heap.size) (hk : Kept g n w w') (hg : n = 0 ∨ B ≤ g) : Below B w0 w' :=
  hb.trans ⟨hk.os, hk.tape, hk.output, hk.size, fun k h => hk.block k (Nat.lt_of_lt_of_le h hB) (hg.imp id (by omega))⟩
theorem rd_kept {g n : Nat} {w w' : World} {a : Option Addr} {b off : Nat} {l : List Int} (hk : Kept g n w w') (hr : Rd w a b off l) (hne : l.length = 0 ∨ n = 0 ∨ b ≠ g) : Rd w' a b off l := by
  refine ⟨hr.head, fun i hi => ?_, hr.size⟩
  rcases hne with h0 | h1
  · omega
  · exact (World.cell?_of_block (hk.block b (World.block_lt_of_cell? _ _ (hr.cell i hi)) h1)).trans (hr.cell i hi)
theorem wt_kept {g n : Nat} {w w' : World} {a : Option Addr} {b : Nat} {l : List Int} (hk : Kept g n w w') (hr : Wt w a b l) (hne : l.length = 0 ∨ n = 0 ∨ b ≠ g) : Wt w' a b l := by
  refine ⟨hr.head, fun i hi => ?_, fun i hi => ?_, hr.size⟩
  · have := (rd_kept hk hr.rd hne).cell i hi
    simpa using this
  · rcases hne with h0 | h1
    · omega
    · have hb := hk.block b (World.block_lt_of_cell? _ _ (hr.cell i hi)) h1
      have := hr.free i hi
      simp only [World.frozen?, hb] at this ⊢
      exact this
theorem mine_kept {g n b : Nat} {w w' : World} {l : List Int} (hk : Kept g n w w') (hm : Mine w b l) (hne : n = 0 ∨ b ≠ g) : Mine w' b l :=
  ⟨hm.row.of_block (hk.block b hm.row.lt hne), hm.size⟩
theorem mine_kept2 {g n g' n' b : Nat} {w w' : World} {l : List Int} (hk : Kept2 g n g' n' w w') (hm : Mine w b l) (hne : (n = 0 ∨ b ≠ g) ∧ (n' = 0 ∨ b ≠ g')) : Mine w' b l :=
  ⟨hm.row.of_block (hk.block b hm.row.lt hne.1 hne.2), hm.size⟩

end Go.Proofs.Ytcbhpmgjmpbpmaa.Lk
namespace Go.Proofs.Ytcbhpmgjmpbpmaa.Jm
open Go Go.RowKit
set_option maxRecDepth 8000
set_option linter.unusedSimpArgs false
set_option linter.unusedVariables false
open Num Pl Ea Ga Em Mf

theorem markH_any (k0 : Int) (h0 : 0 ≤ k0) (hk : k0 ≤ 100000000000) (a : Option Addr) (g c : Nat) (l : List Int) (w : World) (h : Hr.Wt w a g l) :
    Calls Try.prog 95 #[.agg #[.slice a l.length c], .int .i64 k0] w fun e w' => e = .returned (.int .i64 (k0 + (l.length : Int))) ∧ Kept g l.length w w' ∧ Hr.Wt w' a g (marksF k0 l.length) := by
  obtain ⟨W0, hW0⟩ : ∃ W0, W0 = w.alloc (.cells #[.slice a l.length c] 28) := ⟨_, rfl⟩
  have B : Below w.heap.size w W0 := by subst hW0; exact below_alloc1 _ _
  have hr := h.below B
  go_enter Try.func95, Try.ntmps95
  go_wp2_with (go_at_call 176; rw [← hW0]; clear hW0; refine (markF_any k0 h0 (by omega) a g c l _ hr).mono ?_; rintro e w' ⟨rfl, hk1, hw⟩)
  go_ret
  refine ⟨rfl, ⟨hk1.os.trans B.os, hk1.tape.trans B.tape, hk1.output.trans B.output, Nat.le_trans B.size hk1.size, fun k hk2 hne => (hk1.block k (Nat.lt_of_lt_of_le hk2 B.size) hne).trans (B.block k hk2)⟩, hw⟩
theorem heldH_any (k0 : Int) (h0 : 0 ≤ k0) (hk : k0 ≤ 100000000000) (a : Option Addr) (g c n : Nat) (w : World) (h : Hr.Wt w a g (marksF k0 n)) :
    Calls Try.prog 100 #[.agg #[.slice a n c], .int .i64 k0] w fun e w' => e = .returned (.int .i64 (k0 + (n : Int))) ∧ Below w.heap.size w w' := by
  have B := below_alloc1 w (.cells #[.slice a n c] 28)
  have hr := h.below B
  have hp : ¬ (k0 + (n : Int) < 0) := by omega
  go_enter Try.func100, Try.ntmps100
  go_wp2_with (go_at_call 177; refine (heldF_any k0 h0 (by omega) a g c n _ hr).mono ?_; rintro e w' ⟨rfl, hw⟩; replace hw := hw.symm; subst hw)
  go_ret
  exact ⟨rfl, B⟩
theorem heldM_any (k0 : Int) (h0 : 0 ≤ k0) (hk : k0 ≤ 100000000000) (a a' : Option Addr) (g c n g' c' n' : Nat) (w : World) (hn : n ≤ 4194304) (h : Hr.Wt w a g (marksF k0 n)) (h' : Hr.Wt w a' g' (marksF (k0 + (n : Int)) n')) :
    Calls Try.prog 98 #[.agg #[.slice a n c, .slice a' n' c'], .int .i64 k0] w fun e w' => e = .returned (.int .i64 (k0 + (n : Int) + (n' : Int))) ∧ Below w.heap.size w w' := by
  have B := below_alloc1 w (.cells #[.slice a n c, .slice a' n' c'] 25)
  have hr := h.below B
  have hr' := h'.below B
  have hp : ¬ (k0 + (n : Int) < 0) := by omega
  have hp' : ¬ (k0 + (n : Int) + (n' : Int) < 0) := by omega
  have t1 : True := trivial
  go_enter Try.func98, Try.ntmps98
  go_wp2_with (first
    | (go_at_call 177; clear t1; refine (heldF_any k0 h0 (by omega) a g c n _ hr).mono ?_; rintro e w' ⟨rfl, hw⟩; replace hw := hw.symm; subst hw; have t2 : True := trivial)
    | (go_at_call 177; clear t2; refine (heldF_any _ (by omega) (by omega) a' g' c' n' _ hr').mono ?_; rintro e w' ⟨rfl, hw⟩; replace hw := hw.symm; subst hw))
  go_ret
  exact ⟨rfl, B⟩

/-- The message's rows may be written, each in a block of its own. -/
structure WtM (w : World) (f : Msg) : Prop where
  wV : Hr.Wt w f.e.aV f.e.bV f.e.V
  wM : Hr.Wt w f.e.aM f.e.bM f.e.M
  wA : WtA w f.e.aA f.e.bA f.e.A
  wH : Hr.Wt w f.aH f.bH f.H
structure Ap4 (f : Msg) : Prop where
  d1 : f.e.bV ≠ f.e.bM
  d2 : f.e.bV ≠ f.e.bA
  d3 : f.e.bM ≠ f.e.bA
  d4 : f.bH ≠ f.e.bV
  d5 : f.bH ≠ f.e.bM
  d6 : f.bH ≠ f.e.bA
def Use4 (f : Msg) : Nat → Prop := fun x => x = f.e.bV ∨ x = f.e.bM ∨ x = f.e.bA ∨ x = f.bH
def markM (f : Msg) : Msg :=
  { f with e := { f.e with V := marksF 1 f.e.V.length, M := marksF (1 + (f.e.V.length : Int)) f.e.M.length, A := marksA (1 + (f.e.V.length : Int) + (f.e.M.length : Int)) f.e.A.length },
           H := marksF (1 + (f.e.V.length : Int) + (f.e.M.length : Int) + 3 * (f.e.A.length : Int)) f.H.length }
def top (f : Msg) : Int := 1 + (f.e.V.length : Int) + (f.e.M.length : Int) + 3 * (f.e.A.length : Int) + (f.H.length : Int)
theorem ownM_wt {w : World} {lo : Nat} {f : Msg} (h : OwnM w lo f) : WtM w f := by
  refine ⟨?_, ?_, ?_, ?_⟩
  · rw [h.e.aV]; exact Hr.mine_wt h.e.mV
  · rw [h.e.aM]; exact Hr.mine_wt h.e.mM
  · rw [h.e.aA]; exact mineA_wt h.e.mA
  · rw [h.aH]; exact Hr.mine_wt h.mH
theorem ownM_ap {w : World} {lo : Nat} {f : Msg} (h : OwnM w lo f) : Ap4 f := ⟨h.e.d1, h.e.d2, h.e.d3, h.d1, h.d2, h.d3⟩
theorem ownM_use {w : World} {lo : Nat} {f : Msg} (h : OwnM w lo f) {x : Nat} (hx : Use4 f x) : lo ≤ x := by
  rcases hx with rfl | rfl | rfl | rfl
  · exact h.e.lV
  · exact h.e.lM
  · exact h.e.lA
  · exact h.lH
theorem WtM.keep {w w' : World} {f : Msg} (h : WtM w f) (hk : ∀ x, Use4 f x → x < w.heap.size → w'.heap[x]? = w.heap[x]?) : WtM w' f := by
  have lt : ∀ {b i : Nat} {v : Value}, w.cell? ⟨b, i, none⟩ = some v → b < w.heap.size := fun h => World.block_lt_of_cell? _ _ h
  refine ⟨Em.wt_keep h.wV fun hl => hk _ (.inl rfl) (lt (h.wV.cell 0 hl)), Em.wt_keep h.wM fun hl => hk _ (.inr (.inl rfl)) (lt (h.wM.cell 0 hl)), h.wA.keep fun hl => hk _ (.inr (.inr (.inl rfl))) (lt (h.wA.cell 0 (by omega))), Em.wt_keep h.wH fun hl => hk _ (.inr (.inr (.inr rfl))) (lt (h.wH.cell 0 hl))⟩
theorem WtM.below {w w' : World} {f : Msg} (h : WtM w f) (hb : Below w.heap.size w w') : WtM w' f := h.keep fun x _ hx => hb.block x hx
theorem use_mark {f : Msg} {x : Nat} : Use4 (markM f) x ↔ Use4 f x := Iff.rfl

set_option maxHeartbeats 4000000 in
theorem markMsg_any (f : Msg) (w : World) (h : WtM w f) (ap : Ap4 f) :
    Calls Try.prog 26 #[.agg f.vals, .int .i64 1] w fun e w' => e = .returned (.int .i64 (top f)) ∧ KeptP (Use4 f) w w' ∧ WtM w' (markM f) := by
  unfold top
  obtain ⟨kd, se, xi, ⟨ep, pr, V, M, A, hh, aV, bV, oV, cV, aM, bM, oM, cM, aA, bA, oA, cA⟩, hd, H, aH, bH, oH, cH⟩ := f
  obtain ⟨wV, wM, wA, wH⟩ := h
  obtain ⟨d1, d2, d3, d4, d5, d6⟩ := ap
  simp only at wV wM wA wH d1 d2 d3 d4 d5 d6
  simp only [Msg.vals]
  have sV := wV.size
  have sM := wM.size
  have sA := wA.size
  have sH := wH.size
  obtain ⟨W0, hW0⟩ : ∃ W0, W0 = w.alloc (.cells #[.int .i64 kd, .int .i64 se, .int .i64 xi, .int .i64 ep, .int .i64 pr, .slice aV V.length cV, .slice aM M.length cM, .slice aA A.length cA, .bool hd, .slice aH H.length cH] 30) := ⟨_, rfl⟩
  have B0 : Below w.heap.size w W0 := by subst hW0; exact below_alloc1 _ _
  have k0 : W0.heap[w.heap.size]? = some (.cells #[.int .i64 kd, .int .i64 se, .int .i64 xi, .int .i64 ep, .int .i64 pr, .slice aV V.length cV, .slice aM M.length cM, .slice aA A.length cA, .bool hd, .slice aH H.length cH] 30 (0, 0)) := by subst hW0; exact at_new rfl
  have lV : V.length = 0 ∨ bV < w.heap.size := by
    rcases Nat.eq_zero_or_pos V.length with h | h
    · exact .inl h
    · exact .inr (World.block_lt_of_cell? _ _ (wV.cell 0 h))
  have lM : M.length = 0 ∨ bM < w.heap.size := by
    rcases Nat.eq_zero_or_pos M.length with h | h
    · exact .inl h
    · exact .inr (World.block_lt_of_cell? _ _ (wM.cell 0 h))
  have lA : A.length = 0 ∨ bA < w.heap.size := by
    rcases Nat.eq_zero_or_pos A.length with h | h
    · exact .inl h
    · exact .inr (World.block_lt_of_cell? _ _ (wA.cell 0 (by omega)))
  replace wV := wV.below B0
  replace wM := wM.below B0
  replace wA : WtA W0 aA bA A := wA.keep fun _ => B0.block _ (by omega)
  replace wH := wH.below B0
  have HL : Hid ((V.length = 0 ∨ bV < w.heap.size) ∧ (M.length = 0 ∨ bM < w.heap.size) ∧ (A.length = 0 ∨ bA < w.heap.size)) := ⟨lV, lM, lA⟩
  have HB0 : Hid (Below w.heap.size w W0) := B0
  have hm1 := Lm.markM_any 1 (by omega) (by omega) aV aM bV cV bM cM V M W0 wV wM d1
  have zz : w.heap.size < W0.heap.size := blk_lt k0
  clear lV lM lA B0
  go_enter Try.func26, Try.ntmps26
  go_wp2_with (first
    | (go_at_call 93; rw [← hW0]; clear hW0; refine hm1.mono ?_; rintro e w1 ⟨rfl, hk1, mV, mM⟩; have k1 := (hk1.block w.heap.size zz (by have := HL.out; omega) (by have := HL.out; omega)).trans k0; have wA1 : WtA w1 aA bA A := wA.keep fun hl => hk1.block _ (by have := HL.out; omega) (.inr (by omega)) (.inr (by omega)); have wH1 : Hr.Wt w1 aH bH H := Em.wt_keep wH fun hl => hk1.block _ (World.block_lt_of_cell? _ _ (wH.cell 0 hl)) (.inr (by omega)) (.inr (by omega)); have hm2 := markA_any (1 + (V.length : Int) + (M.length : Int)) (by omega) (by omega) aA bA cA A w1 wA1; clear hm1; obtain ⟨p0, p1, p2, p3, p4, p5, p6, p7, p8, p9⟩ := ten k1)
    | (go_at_call 94; refine hm2.mono ?_; rintro e w2 ⟨rfl, hk2, mA⟩; have k2 := (hk2.block w.heap.size (blk_lt k1) (by have := HL.out; omega)).trans k1; have wH2 : Hr.Wt w2 aH bH H := Em.wt_keep wH1 fun hl => hk2.block _ (World.block_lt_of_cell? _ _ (wH1.cell 0 hl)) (.inr (by omega)); have hm3 := markH_any (1 + (V.length : Int) + (M.length : Int) + 3 * (A.length : Int)) (by omega) (by omega) aH bH cH H w2 wH2; clear hm2 p0 p1 p2 p3 p4 p5 p6 p7 p8 p9; obtain ⟨p0, p1, p2, p3, p4, p5, p6, p7, p8, p9⟩ := ten k2)
    | (go_at_call 95; refine hm3.mono ?_; rintro e w3 ⟨rfl, hk3, mH⟩))
  go_ret
  have HB := HB0.out
  refine ⟨rfl, ⟨hk3.os.trans (hk2.os.trans (hk1.os.trans HB.os)), hk3.tape.trans (hk2.tape.trans (hk1.tape.trans HB.tape)), hk3.output.trans (hk2.output.trans (hk1.output.trans HB.output)), Nat.le_trans HB.size (Nat.le_trans hk1.size (Nat.le_trans hk2.size hk3.size)), fun k hk hu => ?_⟩, ?_⟩
  · have n1 : k ≠ bV := fun e => hu (.inl e)
    have n2 : k ≠ bM := fun e => hu (.inr (.inl e))
    have n3 : k ≠ bA := fun e => hu (.inr (.inr (.inl e)))
    have n4 : k ≠ bH := fun e => hu (.inr (.inr (.inr e)))
    have x0 := HB.size
    have x1 := hk1.size
    have x2 := hk2.size
    exact (hk3.block k (by omega) (.inr n4)).trans ((hk2.block k (by omega) (.inr n3)).trans ((hk1.block k (by omega) (.inr n1) (.inr n2)).trans (HB.block k hk)))
  · refine ⟨?_, ?_, ?_, mH⟩
    · exact Em.wt_keep (Em.wt_keep mV fun hl => hk2.block _ (World.block_lt_of_cell? _ _ (mV.cell 0 hl)) (.inr d2)) fun hl => hk3.block _ (Nat.lt_of_lt_of_le (World.block_lt_of_cell? _ _ (mV.cell 0 hl)) hk2.size) (.inr (Ne.symm d4))
    · exact Em.wt_keep (Em.wt_keep mM fun hl => hk2.block _ (World.block_lt_of_cell? _ _ (mM.cell 0 hl)) (.inr d3)) fun hl => hk3.block _ (Nat.lt_of_lt_of_le (World.block_lt_of_cell? _ _ (mM.cell 0 hl)) hk2.size) (.inr (Ne.symm d5))
    · exact mA.keep fun hl => hk3.block _ (World.block_lt_of_cell? _ _ (mA.cell 0 (by omega))) (.inr (Ne.symm d6))

set_option maxHeartbeats 4000000 in
theorem heldMsg_any (f : Msg) (w : World) (h : WtM w (markM f)) (hl : f.e.V.length ≤ 4194304 ∧ f.e.M.length ≤ 4194304 ∧ f.e.A.length ≤ 4194304 ∧ f.H.length ≤ 4194304) :
    Calls Try.prog 31 #[.agg f.vals, .int .i64 1] w fun e w' => e = .returned (.int .i64 (top f)) ∧ Below w.heap.size w w' := by
  unfold top
  obtain ⟨kd, se, xi, ⟨ep, pr, V, M, A, hh, aV, bV, oV, cV, aM, bM, oM, cM, aA, bA, oA, cA⟩, hd, H, aH, bH, oH, cH⟩ := f
  obtain ⟨wV, wM, wA, wH⟩ := h
  simp only [markM] at wV wM wA wH
  simp only at hl
  obtain ⟨sV, sM, sA, sH⟩ := hl
  simp only [Msg.vals]
  obtain ⟨W0, hW0⟩ : ∃ W0, W0 = w.alloc (.cells #[.int .i64 kd, .int .i64 se, .int .i64 xi, .int .i64 ep, .int .i64 pr, .slice aV V.length cV, .slice aM M.length cM, .slice aA A.length cA, .bool hd, .slice aH H.length cH] 30) := ⟨_, rfl⟩
  have B0 : Below w.heap.size w W0 := by subst hW0; exact below_alloc1 _ _
  have k0 : W0.heap[w.heap.size]? = some (.cells #[.int .i64 kd, .int .i64 se, .int .i64 xi, .int .i64 ep, .int .i64 pr, .slice aV V.length cV, .slice aM M.length cM, .slice aA A.length cA, .bool hd, .slice aH H.length cH] 30 (0, 0)) := by subst hW0; exact at_new rfl
  replace wV := wV.below B0
  replace wM := wM.below B0
  replace wA : WtA W0 aA bA (marksA (1 + (V.length : Int) + (M.length : Int)) A.length) := wA.keep fun hl => B0.block _ (World.block_lt_of_cell? _ _ (wA.cell 0 (by omega)))
  replace wH := wH.below B0
  have q1 : ¬ (1 + (V.length : Int) + (M.length : Int) < 0) := by omega
  have q2 : ¬ (1 + (V.length : Int) + (M.length : Int) + 3 * (A.length : Int) < 0) := by omega
  have q3 : ¬ (1 + (V.length : Int) + (M.length : Int) + 3 * (A.length : Int) + (H.length : Int) < 0) := by omega
  have hm1 := heldM_any 1 (by omega) (by omega) aV aM bV cV V.length bM cM M.length W0 sV wV wM
  go_enter Try.func31, Try.ntmps31
  go_wp2_with (first
    | (go_at_call 98; rw [← hW0]; clear hW0; refine hm1.mono ?_; rintro e w1 ⟨rfl, b1⟩; have k1 := (b1.block _ (blk_lt k0)).trans k0; replace wA : WtA w1 aA bA (marksA (1 + (V.length : Int) + (M.length : Int)) A.length) := wA.keep fun hl => b1.block _ (World.block_lt_of_cell? _ _ (wA.cell 0 (by omega))); replace wH := wH.below b1; have hm2 := heldA_any (1 + (V.length : Int) + (M.length : Int)) (by omega) (by omega) aA bA cA A.length w1 wA; have hm3 := heldH_any (1 + (V.length : Int) + (M.length : Int) + 3 * (A.length : Int)) (by omega) (by omega) aH bH cH H.length w1 wH; clear hm1; obtain ⟨p0, p1, p2, p3, p4, p5, p6, p7, p8, p9⟩ := ten k1)
    | (go_at_call 99; refine hm2.mono ?_; rintro e w2 ⟨rfl, hw⟩; replace hw := hw.symm; subst hw)
    | (go_at_call 100; refine hm3.mono ?_; rintro e w3 ⟨rfl, b3⟩))
  go_ret
  exact ⟨rfl, Rw.next B0 (Rw.next b1 b3)⟩

end Go.Proofs.Ytcbhpmgjmpbpmaa.Jm
